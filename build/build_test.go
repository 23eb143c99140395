package build_test

import (
	"fmt"
	"math"
	"slices"
	"strings"
	"testing"

	"holloway/api"
	"holloway/build"
	"holloway/eval"
	"holloway/inner"
	"holloway/ir"
	"holloway/record"
)

const (
	least    = math.MinInt
	greatest = math.MaxInt
	code     = 200 // where the code of these tests lies
	size     = 400 // how many cells these machines have
)

// nums makes a list.
func nums(l ...int) []int { return l }

// edges are numbers at which something turns.
func edges() []int {
	return nums(least, least+1, -1<<32, -65, -64, -2, -1, 0, 1, 2, 3, 63, 64, 65, code, size-1, size, 1<<32, greatest-1, greatest)
}

// list makes the cells 101, 102 .., n of them.
func list(n int) []int {
	l := make([]int, n)
	for i := range l {
		l[i] = 101 + i
	}
	return l
}

func expect[T comparable](t *testing.T, what string, got, want T) {
	t.Helper()
	if got != want {
		t.Errorf("%s: %v, not %v", what, got, want)
	}
}

// seen makes a step of its numbers.
func seen(ip, cell, arg, next int) api.Seen {
	return api.Seen{Ip: ip, Cell: cell, Arg: arg, Next: next}
}

// path makes a recording of steps.
func path(steps ...api.Seen) api.Recording {
	r := api.Recording{Start: steps[0].Ip, End: steps[len(steps)-1].Next, Steps: steps}
	r.Loop = r.Start == r.End
	return r
}

// row makes a recording of operations without operands, one behind the other.
func row(ops ...int) api.Recording {
	var steps []api.Seen
	for k, o := range ops {
		steps = append(steps, seen(code+k, o, 0, code+k+1))
	}
	return path(steps...)
}

// times makes a list of one number.
func times(n, v int) []int { return slices.Repeat(nums(v), n) }

// machine makes one that runs some code.
func machine(stack, back []int, cells ...int) api.State {
	s := inner.Boot(size, "ab")
	copy(s.Mem[code:], cells)
	s.Ip, s.Status, s.Stack, s.Back = code, api.Running, stack, back
	return s
}

// with tells a machine that was changed a bit.
func with(s api.State, change func(s *api.State)) api.State {
	s = inner.Copy(s)
	change(&s)
	return s
}

// alike tells whether two machines are; lists that are nil and empty are one.
func alike(a, b api.State) bool {
	return a.Ip == b.Ip && a.Handler == b.Handler && a.Out == b.Out && a.In == b.In && a.Read == b.Read &&
		a.Status == b.Status && a.Code == b.Code &&
		slices.Equal(a.Stack, b.Stack) && slices.Equal(a.Back, b.Back) && slices.Equal(a.Mem, b.Mem)
}

// text tells a machine but for its memory.
func text(s api.State) string {
	return fmt.Sprintf("{at %d, stack %v, back %v, %d bytes of out, %d of %q read, status %d}", s.Ip, s.Stack, s.Back, len(s.Out), s.Read, s.In, s.Status)
}

// follows tells how many steps of a machine are those of a recording, up to one that stores into a watched cell: whether there was one.
func follows(s api.State, r api.Recording, watched []int) (int, bool) {
	// What is caught is a fault, too.
	s.Handler = 0
	for done, x := range r.Steps {
		next := inner.Step(s)
		loop := x.Cell == api.Loop || x.Cell == api.PlusLoop
		if s.Ip != x.Ip || next.Status != api.Running || next.Ip != x.Next || loop && (len(next.Back) == len(s.Back)) != (x.Next == x.Arg) {
			return done, false
		}
		if (x.Cell == api.Store || x.Cell == api.AddTo) && slices.Contains(watched, s.Stack[len(s.Stack)-1]) {
			return done + 1, true
		}
		s = next
	}
	return len(r.Steps), false
}

// made tells the trace of a recording, which must be one that may be.
func made(t *testing.T, r api.Recording) api.Trace {
	t.Helper()
	x, is := build.Trace(r)
	if !is || !ir.Right(x) {
		t.Fatalf("%v: %t, %v", r, is, x)
	}
	return x
}

// expectRun holds the trace of a recording against the steps of a machine; how many of them it did, and whether it was hit.
func expectRun(t *testing.T, r api.Recording, s api.State, more ...int) (int, bool) {
	t.Helper()
	x := made(t, r)
	watched := append(slices.Clone(x.Cells), more...)
	got, done := eval.Run(x, s, watched...)
	if done.Exit < 0 {
		t.Fatalf("%v may not be entered: %s", r.Steps, text(s))
	}
	want, left := inner.Run(s, done.Steps)
	if !alike(got, want) || left != 0 {
		t.Errorf("%v of %s: %s after %d steps, not %s", r.Steps, text(s), text(got), done.Steps, text(want))
	}
	steps, hit := follows(s, r, watched)
	if done.Steps != steps || done.Hit != hit || steps == len(r.Steps) && !hit && done.Exit != x.Last {
		t.Errorf("%v of %s: %+v, not %d steps, hit %t", r.Steps, text(s), done, steps, hit)
	}
	return done.Steps, done.Hit
}

// expectNeeds holds what a recording needs against four numbers, and against its trace.
func expectNeeds(t *testing.T, what string, r api.Recording, slots, grow, backs, growBack int) {
	t.Helper()
	a, b, c, d := build.Needs(r)
	expect(t, what+": needs", [4]int{a, b, c, d}, [4]int{slots, grow, backs, growBack})
	x, is := build.Trace(r)
	expect(t, what+": is", is, max(slots, grow, backs, growBack) <= 48)
	if !is {
		expect(t, what+": nothing", ir.Same(x, api.Trace{}), true)
		return
	}
	expect(t, what+": Right", ir.Right(x), true)
	expect(t, what+": takes", [4]int{x.Slots, x.Grow, x.Backs, x.GrowBack}, [4]int{slots, grow, backs, growBack})
}

// P1601: the chapter's example.
func TestExample(t *testing.T) {
	expectNeeds(t, "Dup, Add", row(api.Dup, api.Add), 1, 1, 0, 0)
}

// effects tells what each plain operation takes and gives, as the table of chapter 6 tells it: where a loop goes round.
func effects() map[int][4]int {
	m := map[int][4]int{
		api.Nop: {}, api.Branch: {}, api.Exit: {0, 0, 1, 0}, api.Lit: {0, 1, 0, 0}, api.Zero: {1, 0, 0, 0},
		api.Dup: {1, 2, 0, 0}, api.Drop: {1, 0, 0, 0}, api.Swap: {2, 2, 0, 0}, api.Copy: {2, 3, 0, 0}, api.Rot: {3, 3, 0, 0},
		api.Fetch: {1, 1, 0, 0}, api.Store: {2, 0, 0, 0}, api.AddTo: {2, 0, 0, 0},
		api.ToBack: {1, 0, 0, 1}, api.FromBack: {0, 1, 1, 0}, api.AtBack: {0, 1, 1, 1},
		api.Do: {2, 0, 0, 2}, api.Loop: {0, 0, 2, 2}, api.PlusLoop: {1, 0, 2, 2}, api.J: {0, 1, 3, 3}, api.Unloop: {0, 0, 2, 0},
		api.Emit: {1, 0, 0, 0}, api.Dot: {1, 0, 0, 0}, api.Key: {0, 1, 0, 0}, api.Execute: {1, 0, 0, 1},
	}
	for _, o := range nums(api.Negate, api.Invert, api.IsZero, api.IsNeg) {
		m[o] = [4]int{1, 1, 0, 0}
	}
	for _, o := range nums(api.Add, api.Sub, api.Mul, api.Div, api.Mod, api.And, api.Or, api.Xor, api.Left, api.Right,
		api.Equal, api.Less, api.ULess, api.Min, api.Max) {
		m[o] = [4]int{2, 1, 0, 0}
	}
	return m
}

// P1601: each operation alone: what it takes is needed, and so much room as it gives more.
func TestNeedsOfEach(t *testing.T) {
	table := effects()
	expect(t, "how many are plain", len(table), api.Ops-4)
	for o, e := range table {
		x := seen(code, o, 0, code+1)
		switch o {
		case api.Lit:
			x.Arg, x.Next = 7, code+2
		case api.Branch, api.Zero, api.Loop, api.PlusLoop:
			x.Arg, x.Next = 300, 300
		}
		expectNeeds(t, fmt.Sprint(o), path(x), e[0], max(e[1]-e[0], 0), e[2], max(e[3]-e[2], 0))
	}
	for _, to := range nums(api.First, 65, 199, 201, 2999) {
		expectNeeds(t, "a call", path(seen(code, to, 0, to)), 0, 0, 0, 1)
	}
}

// P1601: a loop that ended gives nothing; one both ways of which lead to one place went round.
func TestNeedsOfLoops(t *testing.T) {
	for _, x := range []struct{ arg, next, backs int }{{300, 300, 2}, {300, code + 2, 3}, {code + 2, code + 2, 2}, {code, code + 2, 3}} {
		back := seen(x.next, api.Exit, 0, 7)
		expectNeeds(t, "Loop, Exit", path(seen(code, api.Loop, x.arg, x.next), back), 0, 0, x.backs, 0)
		expectNeeds(t, "PlusLoop, Exit", path(seen(code, api.PlusLoop, x.arg, x.next), back), 1, 0, x.backs, 0)
	}
	expectNeeds(t, "back to its start", path(seen(code, api.Loop, code, code)), 0, 0, 2, 0)
	ended := seen(code+1, api.Loop, code, code+3)
	expectNeeds(t, "Do, ended, Do", path(seen(code, api.Do, 0, code+1), ended, seen(code+3, api.Do, 0, code+4)), 4, 0, 0, 2)
	round := seen(code+1, api.Loop, 300, 300)
	expectNeeds(t, "Do, round, Do", path(seen(code, api.Do, 0, code+1), round, seen(300, api.Do, 0, 301)), 4, 0, 0, 4)
	// Only of loops is it asked where they led.
	zero := seen(code, api.Zero, 300, code+2)
	expectNeeds(t, "Zero that went on", path(zero, seen(code+2, api.Dup, 0, code+3)), 2, 0, 0, 0)
}

// P1601: step by step: what was laid by the steps is not needed, and what is taken first leaves room.
func TestNeedsOfRows(t *testing.T) {
	for _, x := range []struct {
		ops                           []int
		slots, grow, backs, growsBack int
	}{
		{nums(api.Add, api.Dup), 2, 0, 0, 0},
		{nums(api.Drop, api.Drop, api.Key, api.Key, api.Key), 2, 1, 0, 0},
		{nums(api.Key, api.Drop, api.Drop), 1, 1, 0, 0},
		{nums(api.Key, api.Rot), 2, 1, 0, 0},
		{nums(api.Drop, api.Rot), 4, 0, 0, 0},
		{nums(api.Key, api.Key, api.Key, api.Drop, api.Drop, api.Drop, api.Drop), 1, 3, 0, 0},
		{nums(api.ToBack, api.ToBack, api.J), 2, 0, 1, 2},
		{nums(api.ToBack, api.AtBack, api.FromBack), 1, 1, 0, 1},
		{nums(api.FromBack, api.FromBack, api.J), 0, 3, 5, 0},
		{nums(api.Unloop, api.AtBack, api.Do, api.Unloop), 1, 1, 3, 0},
		{nums(api.AtBack, api.FromBack, api.AtBack), 0, 3, 2, 0},
		{nums(api.Swap, api.Copy, api.Store), 2, 1, 0, 0},
		{nums(api.Do, api.Unloop), 2, 0, 0, 2},
		{nums(api.Nop, api.Nop), 0, 0, 0, 0},
	} {
		expectNeeds(t, fmt.Sprint(x.ops), row(x.ops...), x.slots, x.grow, x.backs, x.growsBack)
	}
	expectNeeds(t, "called, and back", path(seen(code, 300, 0, 300), seen(300, api.Exit, 0, code+1)), 0, 0, 0, 1)
	expectNeeds(t, "executed, and back", path(seen(code, api.Execute, 0, 300), seen(300, api.FromBack, 0, 301)), 1, 0, 0, 1)
	expectNeeds(t, "called, and deeper back", path(seen(code, 300, 0, 300), seen(300, api.J, 0, 301)), 0, 1, 2, 1)
}

// P1601: no more than there may be, of each of the four alone.
func TestNeedsTooMuch(t *testing.T) {
	for _, n := range nums(1, 47, 48, 49, 50, 119, 120) {
		expectNeeds(t, "slots", row(times(n, api.Drop)...), n, 0, 0, 0)
		expectNeeds(t, "grow", row(times(n, api.Key)...), 0, n, 0, 0)
		expectNeeds(t, "backs", row(times(n, api.Exit)...), 0, 0, n, 0)
		var calls []api.Seen
		for k := range n {
			calls = append(calls, seen(code+k, code+k+1, 0, code+k+1))
		}
		expectNeeds(t, "grow of Back", path(calls...), 0, 0, 0, n)
	}
	// All of a full stack are taken, and then so many are laid as there may be: by their numbers each is no more than may be.
	expectNeeds(t, "both", row(append(times(48, api.Drop), times(72, api.Key)...)...), 48, 24, 0, 0)
	expectNeeds(t, "more than both may be", row(append(times(60, api.Key), times(60, api.Drop)...)...), 0, 60, 0, 0)
	expectNeeds(t, "one and 48 more", row(times(48, api.Dup)...), 1, 48, 0, 0)
}

// wrong are recordings that may not be, each for another reason.
func wrong() []api.Recording {
	var l []api.Recording
	for _, change := range []func(r *api.Recording){
		func(r *api.Recording) { r.Start++ },
		func(r *api.Recording) { r.End++ },
		func(r *api.Recording) { r.Loop = true },
		func(r *api.Recording) { r.Steps[0].Ip++ },
		func(r *api.Recording) { r.Steps[0].Next++ },
		func(r *api.Recording) { r.Steps[1].Ip++ },
		func(r *api.Recording) { r.Steps[1].Next++ },
		func(r *api.Recording) { r.Steps[0].Arg = 1 },
		func(r *api.Recording) { r.Steps[0].Cell = -1 },
		func(r *api.Recording) { r.Steps[0].Cell = api.Ops },
		func(r *api.Recording) { r.Steps[0].Cell = api.First - 1 },
		func(r *api.Recording) { r.Steps[1].Cell = api.Halt },
		func(r *api.Recording) { r.Steps[1].Cell = api.EndCatch },
		func(r *api.Recording) { r.Steps[1].Cell = api.Throw },
		func(r *api.Recording) { r.Steps[1].Cell = api.Catch },
		func(r *api.Recording) { r.Steps[1].Cell = least },
		func(r *api.Recording) { r.Steps[1].Next, r.End = 3000, 3000 },
		func(r *api.Recording) { r.Steps[1].Next, r.End = -1, -1 },
		func(r *api.Recording) { r.Steps[1].Next, r.Steps[2].Ip = r.Start, r.Start },
		func(r *api.Recording) { r.Start, r.Steps[0].Ip = -1, -1 },
		func(r *api.Recording) { r.Steps = r.Steps[:2] },
		func(r *api.Recording) { r.Steps = nil },
		func(r *api.Recording) { *r = row(times(121, api.Nop)...) },
		func(r *api.Recording) { r.Steps = make([]api.Seen, 100_000) },
	} {
		r := row(api.Dup, api.Swap, api.Add)
		change(&r)
		l = append(l, r)
	}
	return l
}

// P1601: a recording that is not right, and one without steps: false, and nothing.
func TestRefused(t *testing.T) {
	for i, r := range append(wrong(), api.Recording{}, api.Recording{Start: code, End: code}, api.Recording{Start: least, End: least, Steps: []api.Seen{}}) {
		what := fmt.Sprintf("the recording %d", i)
		expect(t, what+" is right", record.Right(r), len(r.Steps) == 0 && r.Start == r.End)
		a, b, c, d := build.Needs(r)
		expect(t, what+": needs", [4]int{a, b, c, d}, [4]int{})
		x, is := build.Trace(r)
		expect(t, what+": is", is, false)
		expect(t, what+": nothing", ir.Same(x, api.Trace{}), true)
	}
	made(t, row(api.Dup, api.Swap, api.Add))
}

// P1601: what a trace tells of its recording.
func TestTrace(t *testing.T) {
	round := machine(nums(1), nums(9, 0), api.Lit, 3, api.Add, api.Loop, code)
	for _, r := range []api.Recording{
		row(api.Dup, api.Add), row(api.Nop), row(times(120, api.Nop)...), record.Loop(round, 99), record.Loop(round, 2),
		path(seen(2998, api.Lit, 5, 0)), path(seen(0, api.Exit, 0, 2999)), path(seen(2999, 300, 0, 300)), path(seen(5, api.Branch, 5, 5)),
		path(seen(code, api.Dup, 0, 2999)), path(seen(code, api.Execute, 0, 0), seen(0, api.Dup, 0, 1)),
		path(seen(20, api.Lit, 5, 9), seen(9, api.Lit, 5, 11), seen(11, api.Zero, 9, 9), seen(9, api.Key, 0, 10)),
	} {
		x := made(t, r)
		a, b, c, d := build.Needs(r)
		expect(t, "Start", x.Start, r.Start)
		expect(t, "by Needs", [4]int{x.Slots, x.Grow, x.Backs, x.GrowBack}, [4]int{a, b, c, d})
		expect(t, "Cells", slices.Equal(x.Cells, record.Cells(r)), true)
		expect(t, "Steps", x.Outs[x.Last].Steps, len(r.Steps))
		expect(t, "End", x.Outs[x.Last].Ip, r.End)
	}
}

// loops makes a recording of so many Dups, and then of so many loops that go round to what is behind them.
func loops(dups, o, n int) api.Recording {
	r := api.Recording{Start: code, End: code}
	for range dups {
		r.Steps = append(r.Steps, seen(r.End, api.Dup, 0, r.End+1))
		r.End++
	}
	for range n {
		r.Steps = append(r.Steps, seen(r.End, o, r.End+2, r.End+2))
		r.End += 2
	}
	return r
}

// P1601: the trace of a long recording may be, too, whatever its steps are.
func TestLongest(t *testing.T) {
	for _, r := range []api.Recording{
		loops(36, api.PlusLoop, 84), loops(48, api.PlusLoop, 72), loops(0, api.PlusLoop, 48), loops(0, api.Loop, 120), loops(1, api.Loop, 119),
		row(append(times(48, api.Key), times(48, api.AddTo)...)...), row(append(times(48, api.Key), times(72, api.Div)...)...),
		row(slices.Concat(times(48, api.Key), times(48, api.Dot), times(24, api.Exit))...),
		row(append(times(24, api.Exit), times(48, api.Execute)...)...),
	} {
		made(t, r)
	}
	for _, o := range nums(api.Loop, api.PlusLoop) {
		s, r := machine(times(48, 0), nums(5, 1)), loops(0, o, 48)
		s.Back[0] = 900
		lay(&s, r)
		steps, _ := expectRun(t, r, s)
		expect(t, "steps", steps, 48)
	}
}

// lay lays the code of a recording into a machine, which is at its start then; false, if some cell had to be two.
func lay(s *api.State, r api.Recording) bool {
	laid := map[int]int{}
	put := func(a, v int) bool {
		was, is := laid[a]
		laid[a], s.Mem[a] = v, v
		return !is || was == v
	}
	s.Ip = r.Start
	for _, x := range r.Steps {
		arg := x.Cell == api.Lit || x.Cell == api.Branch || x.Cell == api.Zero || x.Cell == api.Loop || x.Cell == api.PlusLoop
		if !put(x.Ip, x.Cell) || arg && !put(x.Ip+1, x.Arg) {
			return false
		}
	}
	return true
}

// P1601, P1602: an answer is new, each list of it alone; what was handed in stays.
func TestShares(t *testing.T) {
	steps := append(row(api.Copy, api.Copy, api.AddTo, api.Dup, api.ToBack, api.Store, api.Emit, api.AtBack).Steps, seen(1, 2, 3, 4), seen(5, 6, 7, 8))
	was := slices.Clone(steps)
	r := path(steps[:8]...)
	got, _ := build.Trace(r)
	want, _ := build.Trace(r)
	build.Needs(r)
	lists := [][]int{got.Cells}
	for _, o := range got.Outs {
		lists = append(lists, o.Stack, o.Back)
	}
	for k, l := range lists {
		old := slices.Clone(l)
		l = l[:cap(l)]
		for i := range l {
			l[i] = 777
		}
		other, _ := build.Trace(r)
		expect(t, "another answer", ir.Same(other, want), true)
		copy(l, old)
		expect(t, fmt.Sprintf("the others beside the list %d", k), ir.Same(got, want), true)
	}
	clear(got.Ins)
	clear(got.Outs)
	other, _ := build.Trace(r)
	expect(t, "another answer", ir.Same(other, want), true)
	expect(t, "the steps", slices.Equal(steps, was), true)
	clear(steps)
	expect(t, "an answer", ir.Same(other, want), true)
}

// full is an output that has room for some bytes.
func full(room int) string { return strings.Repeat("x", api.MaxOut-room) }
