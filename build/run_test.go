package build_test

import (
	"fmt"
	"testing"

	"holloway/api"
	"holloway/build"
	"holloway/eval"
	"holloway/record"
)

// round tells the recording of a machine.
func round(s api.State) api.Recording { return record.Loop(s, 120) }

// stacks are some, all of whose topmost cells are numbers at which something turns.
func stacks() [][]int {
	var l [][]int
	for _, a := range edges() {
		for _, b := range edges() {
			l = append(l, nums(7, 8, 9, a, b))
		}
	}
	return l
}

// P1602: each operation that leads on, of all pairs of such numbers on both stacks.
func TestEach(t *testing.T) {
	jumps := map[int]bool{api.Exit: true, api.Execute: true, api.Branch: true, api.Zero: true, api.Loop: true, api.PlusLoop: true}
	for o := range effects() {
		if jumps[o] {
			continue
		}
		next := code + 1
		arg := 0
		if o == api.Lit {
			next, arg = code+2, least
		}
		r := path(seen(code, o, arg, next))
		for _, l := range stacks() {
			s := machine(l, append(nums(1), l...), o, arg)
			expectRun(t, r, s)
			s.Out, s.Read, s.Handler, s.Code = full(9), 2, 4, -9
			expectRun(t, r, s)
		}
	}
}

// P1602: what can't be done leaves ahead of its step; the step is a fault then, which is left to the machine.
func TestFaults(t *testing.T) {
	for _, x := range []struct {
		what  string
		ops   []int
		stack []int
		steps int
	}{
		{"Div", nums(api.Nop, api.Div, api.Dup), nums(5, 2), 3},
		{"Div by 0", nums(api.Nop, api.Div, api.Dup), nums(5, 0), 1},
		{"Mod", nums(api.Nop, api.Mod, api.Dup), nums(5, -2), 3},
		{"Mod by 0", nums(api.Nop, api.Mod, api.Dup), nums(least, 0), 1},
		{"Fetch of the last", nums(api.Dup, api.Fetch, api.Swap), nums(size - 1), 3},
		{"Fetch of none", nums(api.Dup, api.Fetch, api.Swap), nums(size), 1},
		{"Fetch below", nums(api.Dup, api.Fetch, api.Swap), nums(-1), 1},
		{"Store into the first", nums(api.Dup, api.Swap, api.Store, api.Nop), nums(5, 0), 4},
		{"Store into none", nums(api.Dup, api.Swap, api.Store, api.Nop), nums(5, size), 2},
		{"Store below", nums(api.Dup, api.Swap, api.Store, api.Nop), nums(5, least), 2},
		{"AddTo the last", nums(api.Nop, api.AddTo, api.Key), nums(greatest, size-1), 3},
		{"AddTo none", nums(api.Nop, api.AddTo, api.Key), nums(greatest, size), 1},
		{"AddTo below", nums(api.Nop, api.AddTo, api.Key), nums(greatest, -1), 1},
		{"Emit, Emit, Emit", nums(api.Emit, api.Emit, api.Emit), nums(65, 66, 67), 2},
		{"Dot of three bytes", nums(api.Dot, api.Nop), nums(-1), 0},
		{"Dot of two bytes", nums(api.Dot, api.Nop), nums(9), 2},
		{"Key, Emit, Dot", nums(api.Key, api.Emit, api.Dot), nums(5), 1 + 1},
	} {
		s := machine(x.stack, nil, x.ops...)
		s.Out = full(2)
		s.Mem[size-1] = greatest
		steps, hit := expectRun(t, row(x.ops...), s)
		expect(t, x.what, steps, x.steps)
		expect(t, x.what+": hit", hit, false)
	}
}

// P1602: each turn that a recording took, of machines that take it, too, and of such as don't.
func TestTurns(t *testing.T) {
	for _, x := range []struct {
		what        string
		cells       []int
		stack, back []int
		next        int
	}{
		{"Branch", nums(api.Branch, 300), nil, nil, 300},
		{"Zero of 0", nums(api.Zero, 300), nums(0), nil, 300},
		{"Zero of 5", nums(api.Zero, 300), nums(5), nil, code + 2},
		{"Exit", nums(api.Exit), nil, nums(300), 300},
		{"Execute", nums(api.Execute), nums(300), nil, 300},
		{"Loop round", nums(api.Loop, 300), nil, nums(9, 5), 300},
		{"Loop to its end", nums(api.Loop, 300), nil, nums(9, 8), code + 2},
		{"PlusLoop round", nums(api.PlusLoop, 300), nums(3), nums(9, 5), 300},
		{"PlusLoop to its end", nums(api.PlusLoop, 300), nums(4), nums(9, 5), code + 2},
	} {
		s := machine(x.stack, x.back, x.cells...)
		r := path(seen(code, x.cells[0], append(x.cells, 0)[1], x.next))
		steps, _ := expectRun(t, r, s)
		expect(t, x.what, steps, 1)
		took := 0
		for _, top := range append(edges(), 4, 299, 300, 301) {
			for _, a := range edges() {
				for _, b := range append(edges(), a-1, a-2, a-3, a-4, a+3) {
					other := machine(nums(6, top), nums(6, a, b), x.cells...)
					if x.cells[0] == api.Exit {
						other.Back = nums(6, a, top)
					}
					steps, _ := expectRun(t, r, other)
					took += steps
				}
			}
		}
		if took == 0 {
			t.Errorf("%s: never taken", x.what)
		}
	}
}

// P1602: where both ways of a Zero lead to one place nothing is asked; of a loop it is asked whether it goes round.
func TestTwoWaysToOnePlace(t *testing.T) {
	for _, v := range edges() {
		steps, _ := expectRun(t, path(seen(code, api.Zero, code+2, code+2), seen(code+2, api.Dup, 0, code+3)), machine(nums(5, v), nil, api.Zero, code+2, api.Dup))
		expect(t, "Zero", steps, 2)
	}
	for _, o := range nums(api.Loop, api.PlusLoop) {
		r := path(seen(code, o, code+2, code+2), seen(code+2, api.AtBack, 0, code+3))
		steps, _ := expectRun(t, r, machine(nums(1), nums(7, 9, 5), o, code+2, api.AtBack))
		expect(t, "round", steps, 2)
		steps, _ = expectRun(t, r, machine(nums(1), nums(7, 9, 8), o, code+2, api.AtBack))
		expect(t, "ended", steps, 0)
	}
}

// P1602: a word that is executed must be a cell, from First on, also where nothing of it was recorded.
func TestExecute(t *testing.T) {
	last := func(to int) api.Recording { return path(seen(code, api.Execute, 0, to)) }
	for _, to := range nums(api.First, 65, code, 300, size-1, size, size+1, 2999) {
		s := machine(nums(to), nil, api.Execute)
		steps, _ := expectRun(t, last(to), s)
		expect(t, fmt.Sprintf("Execute of %d", to), steps == 1, to < size)
		s.Stack = nums(to - 1)
		steps, _ = expectRun(t, last(to), s)
		expect(t, fmt.Sprintf("Execute of %d, not %d", to-1, to), steps, 0)
		s.Stack, s.Mem = nums(to), s.Mem[:code+1]
		steps, _ = expectRun(t, last(to), s)
		expect(t, fmt.Sprintf("Execute of %d of few cells", to), steps == 1, to <= code)
	}
	for _, to := range nums(0, 1, 5, 47, 48, 63) {
		steps, _ := expectRun(t, last(to), machine(nums(to), nil, api.Execute))
		expect(t, fmt.Sprintf("Execute of %d", to), steps, 0)
	}
	// A call looks at no cell.
	for _, to := range nums(64, size-1, size, 2999) {
		steps, _ := expectRun(t, path(seen(code, to, 0, to)), machine(nil, nums(5), to))
		expect(t, fmt.Sprintf("a call of %d", to), steps, 1)
	}
	words := machine(nums(300, 310), nil, api.Execute, api.Execute, api.Nop)
	words.Mem[300], words.Mem[310] = api.Exit, api.Exit
	r := record.Loop(words, 5)
	expect(t, "steps of two words", len(r.Steps), 5)
	for steps, stack := range [][]int{nums(310, 300), nums(310, 310), nums(300, 300), nums(300, 310)} {
		got, _ := expectRun(t, r, with(words, func(s *api.State) { s.Stack = stack }))
		expect(t, fmt.Sprint(stack), got, []int{0, 2, 0, 5}[steps])
	}
}

// P1602: no machine goes on as these recordings say: the trace is left ahead of that step.
func TestNowhere(t *testing.T) {
	for _, x := range []api.Seen{
		seen(code+1, api.Dup, 0, 300), seen(code+1, api.Lit, 5, code+2), seen(code+1, api.Nop, 0, code+1), seen(code+1, api.Key, 0, code+3),
		seen(code+1, api.Branch, 250, 260), seen(code+1, api.Branch, 250, code+3), seen(code+1, api.Zero, 250, 260), seen(code+1, api.Zero, 250, code+2),
		seen(code+1, api.Loop, 250, 260), seen(code+1, api.PlusLoop, 250, code+2), seen(code+1, 300, 0, 310), seen(code+1, 300, 0, code+2),
		seen(code+1, api.Execute, 0, 63), seen(code+1, 3000, 0, 0), seen(code+1, greatest, 0, 5), seen(code+1, api.Add, 0, code), seen(code+1, api.Store, 0, 5),
	} {
		for _, more := range [][]api.Seen{nil, {seen(x.Next, api.Drop, 0, 290), seen(290, api.Exit, 0, 291)}} {
			if len(more) > 0 && x.Next == code {
				continue
			}
			r := path(append([]api.Seen{seen(code, api.Dup, 0, code+1), x}, more...)...)
			s := machine(nums(1, 2, 9, 9, 5), nums(1, 2, 9, 9, 9))
			if !lay(&s, r) {
				lay(&s, path(r.Steps[:2]...))
			}
			steps, _ := expectRun(t, r, s)
			expect(t, fmt.Sprint(r.Steps), steps, 1)
			_, grow, _, _ := build.Needs(r)
			tr := made(t, r)
			expect(t, "Grow", tr.Grow, grow)
			expect(t, "Steps", tr.Outs[tr.Last].Steps, len(r.Steps))
			expect(t, "End", tr.Outs[tr.Last].Ip, r.End)
		}
	}
}

// P1602: what is stored into a watched cell ends the trace behind that step, also in the midst of it, and into its own code.
func TestHits(t *testing.T) {
	for _, o := range nums(api.Store, api.AddTo) {
		s := machine(nums(5, 350, 6, 351), nil, o, api.Dup, api.Drop, o, api.Nop)
		r := record.Loop(s, 5)
		expect(t, "steps", len(r.Steps), 5)
		for _, x := range []struct {
			stack []int
			more  []int
			steps int
			hit   bool
		}{
			{nums(5, 350, 6, 351), nil, 5, false},
			{nums(5, 350, 6, 351), nums(352, 349), 5, false},
			{nums(5, 350, 6, 351), nums(351), 1, true},
			{nums(5, 350, 6, 351), nums(350), 4, true},
			{nums(5, 350, 6, 351), nums(350, 351), 1, true},
			{nums(0, code+4, 0, 351), nil, 4, true},
			{nums(0, code, 0, 351), nil, 4, true},
			{nums(0, code+5, 0, 351), nil, 5, false},
			{nums(0, 350, 0, code), nil, 1, true},
			{nums(0, 350, 7, code+1), nil, 1, true},
			{nums(5, size, 6, 351), nums(size), 3, false},
			{nums(5, 350, 6, -1), nums(-1), 0, false},
		} {
			steps, hit := expectRun(t, r, with(s, func(s *api.State) { s.Stack = append(nums(77), x.stack...) }), x.more...)
			expect(t, fmt.Sprintf("%d of %v: steps", o, x.stack), steps, x.steps)
			expect(t, fmt.Sprintf("%d of %v: hit", o, x.stack), hit, x.hit)
		}
	}
	// An operand is a cell of the trace, too; and the last step may be the one that stores.
	s := machine(nums(350), nil, api.Lit, 5, api.Swap, api.Store)
	r := record.Loop(s, 3)
	steps, hit := expectRun(t, r, with(s, func(s *api.State) { s.Stack = nums(code + 1) }))
	expect(t, "its operand: steps", steps, 3)
	expect(t, "its operand: hit", hit, true)
	steps, hit = expectRun(t, r, s)
	expect(t, "elsewhere: steps", steps, 3)
	expect(t, "elsewhere: hit", hit, false)
}

// P1602: the room that is needed is there, and not more; what lies beneath stays.
func TestRoom(t *testing.T) {
	r := row(api.Dup, api.Dup, api.ToBack, api.AtBack, api.Add, api.Key)
	x := made(t, r)
	for _, n := range nums(0, 1, 2, 45, 46, 47, 48) {
		for _, m := range nums(0, 1, 46, 47, 48) {
			s := machine(list(n), list(m))
			lay(&s, r)
			may := n >= 1 && n <= 46 && m <= 47
			expect(t, fmt.Sprintf("May with %d, %d", n, m), eval.May(x, s), may)
			if may {
				steps, _ := expectRun(t, r, s)
				expect(t, "steps", steps, 6)
			}
		}
	}
}

// P1602: in the midst of a trace: all that was stored, told and asked up to there is kept, and nothing behind it.
func TestMidst(t *testing.T) {
	s := machine(nums(3, 350, 1, 65, 5, 350), nums(1, 2),
		api.Store, api.Emit, api.Key, api.Dot, api.Drop, api.Copy, api.Copy, api.AddTo, api.ToBack, api.Zero, 300, api.Key, api.Emit, api.FromBack, api.Fetch, api.Div)
	r := record.Loop(s, 120)
	expect(t, "steps", len(r.Steps), 14)
	s.Stack = nums(0, 8, 2, 350, 1, 65, 5, 351)
	steps, _ := expectRun(t, r, s)
	expect(t, "steps of another one", steps, 14)
	for _, x := range []struct {
		change func(s *api.State)
		steps  int
	}{
		{func(s *api.State) { s.Stack[7] = -1 }, 0},
		{func(s *api.State) { s.Out = full(0) }, 1},
		{func(s *api.State) { s.Out = full(3) }, 3},
		{func(s *api.State) { s.Out = full(4) }, 11},
		{func(s *api.State) { s.Out = full(5) }, 14},
		{func(s *api.State) { s.Read = 2 }, 14},
		{func(s *api.State) { s.Stack[2] = 0 }, 9},
		{func(s *api.State) { s.Stack[3] = 400 }, 7},
		{func(s *api.State) { s.Stack[3] = 351 }, 14},
	} {
		steps, _ := expectRun(t, r, with(s, x.change))
		expect(t, "steps", steps, x.steps)
	}
}

// P1602: loops, some rounds of them: each run of the trace is a round.
func TestRounds(t *testing.T) {
	s := machine(nums(1), nums(9, 0), api.Lit, 3, api.Add, api.Dup, api.Dot, api.Loop, code, api.Nop)
	r := round(s)
	expect(t, "it goes round", r.Loop, true)
	x := made(t, r)
	for range 8 {
		steps, _ := expectRun(t, r, s)
		expect(t, "steps", steps, 5)
		s, _ = eval.Run(x, s, x.Cells...)
	}
	steps, _ := expectRun(t, r, s)
	expect(t, "the last round", steps, 4)
	s, _ = eval.Run(x, s, x.Cells...)
	expect(t, "it is left there", s.Ip, code+5)
	expect(t, "Out", s.Out, "4 7 10 13 16 19 22 25 28 ")
}
