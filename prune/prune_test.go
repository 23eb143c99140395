package prune_test

import (
	"math"
	"slices"
	"testing"

	"holloway/api"
	"holloway/eval"
	"holloway/ir"
	"holloway/prune"
)

const (
	least    = math.MinInt
	greatest = math.MaxInt
)

// These are the exits of the traces that are made here.
const (
	aside = 0
	end   = 1
	hit   = 2
	spare = 3
)

const (
	start = 7 // where they begin
	own   = 3 // the place of the first instruction that is more
)

// twos and ones are the operations of two values and of one that leave no trace.
var (
	twos = nums(api.Add, api.Sub, api.Mul, api.And, api.Or, api.Xor, api.Left, api.Right, api.Equal, api.Less, api.ULess, api.Min, api.Max)
	ones = nums(api.Negate, api.Invert, api.IsZero, api.IsNeg)
)

// nums makes a list.
func nums(l ...int) []int { return l }

// all makes a list of instructions.
func all(l ...api.Ins) []api.Ins { return l }

// out makes an exit at an Ip.
func out(ip int, stack, back []int) api.Out {
	return api.Out{Ip: ip, Steps: ip % 10, Stack: stack, Back: back}
}

// trace makes one that takes two cells of the stack (places 0 and 1) and one of the return stack (place 2), each needed at its end, where these places lie, too. The other exits tell of nothing.
func trace(stack []int, more ...api.Ins) api.Trace {
	return api.Trace{
		Start: start, Slots: 2, Backs: 1, Grow: 6, GrowBack: 4,
		Ins:  append(all(slot(0), slot(1), behind(0)), more...),
		Outs: []api.Out{aside: out(70, nil, nil), end: out(81, append(nums(0, 1), stack...), nums(2)), hit: out(92, nil, nil), spare: out(103, nil, nil)},
		Last: end, Cells: nums(7, 8, 11),
	}
}

func con(v int) api.Ins { return api.Ins{Op: api.Const, A: v} }

func slot(a int) api.Ins   { return api.Ins{Op: api.Slot, A: a} }
func behind(a int) api.Ins { return api.Ins{Op: api.Behind, A: a} }
func ask() api.Ins         { return api.Ins{Op: api.Ask} }

func calc(op, b, c int) api.Ins { return api.Ins{Op: api.Calc, A: op, B: b, C: c, X: aside} }

func load(b int) api.Ins     { return api.Ins{Op: api.Load, B: b, X: aside} }
func put(b, c int) api.Ins   { return api.Ins{Op: api.Put, A: hit, B: b, C: c, X: aside} }
func must(b int) api.Ins     { return api.Ins{Op: api.Must, B: b, X: aside} }
func mustNot(b int) api.Ins  { return api.Ins{Op: api.MustNot, B: b, X: aside} }
func equal(b, c int) api.Ins { return api.Ins{Op: api.Same, B: b, C: c, X: aside} }
func say(b int) api.Ins      { return api.Ins{Op: api.Say, B: b, X: aside} }
func tell(b int) api.Ins     { return api.Ins{Op: api.Tell, B: b, X: aside} }

// by makes an instruction that is left by another exit.
func by(x int, i api.Ins) api.Ins {
	i.X = x
	return i
}

// edges are numbers that would be others in fewer bits, or without a sign.
func edges() []int {
	return nums(least, least+1, -1<<32, -256, -7, -2, -1, 0, 1, 2, 3, 63, 64, 255, 256, 1<<31, 1<<32, 1<<32+1, greatest-1, greatest)
}

// states are machines in which trace may be entered, and one in which it may not be.
func states() []api.State {
	var l []api.State
	for _, stack := range [][]int{nums(9, 1, 2), nums(0, 0), nums(-1, 3, 3), nums(4, 0), nums(4, 5, 0), nums(2, least), nums(2, 4), nums(1, 0)} {
		l = append(l, api.State{Ip: start, Handler: 2, Stack: stack, Back: nums(31, 4), Mem: nums(3, 0, 2, 1, 104), Out: "<", In: "xyz", Read: 1, Code: -44})
	}
	return append(l, api.State{Ip: start, Stack: nums(1), Back: nums(4)})
}

func expect[T comparable](t *testing.T, what string, got, want T) {
	t.Helper()
	if got != want {
		t.Errorf("%s: %v, not %v", what, got, want)
	}
}

// alike tells whether two machines are; lists that are nil and empty are one.
func alike(a, b api.State) bool {
	return a.Ip == b.Ip && a.Handler == b.Handler && a.Out == b.Out && a.In == b.In && a.Read == b.Read &&
		a.Status == b.Status && a.Code == b.Code &&
		slices.Equal(a.Stack, b.Stack) && slices.Equal(a.Back, b.Back) && slices.Equal(a.Mem, b.Mem)
}

// whole makes a copy of a trace.
func whole(t api.Trace) api.Trace {
	t.Ins, t.Cells, t.Outs = slices.Clone(t.Ins), slices.Clone(t.Cells), slices.Clone(t.Outs)
	for k, x := range t.Outs {
		t.Outs[k].Stack, t.Outs[k].Back = slices.Clone(x.Stack), slices.Clone(x.Back)
	}
	return t
}

// leftOf tells, by the words of P1901, which instructions and which exits may not be left in a trace that is right.
func leftOf(t api.Trace) (places, exits []int) {
	var stand []int // in exits that are named
	for x, o := range t.Outs {
		if x == t.Last || slices.ContainsFunc(t.Ins, func(i api.Ins) bool { return slices.Contains(ir.Outs(i), x) }) {
			stand = slices.Concat(stand, o.Stack, o.Back)
			continue
		}
		exits = append(exits, x)
	}
	for at, i := range t.Ins {
		names := func(k api.Ins) bool { return slices.Contains(ir.Uses(k), at) }
		plain := i.Op == api.Const || i.Op == api.Slot || i.Op == api.Behind || i.Op == api.Calc && i.A != api.Div && i.A != api.Mod
		if plain && !slices.Contains(stand, at) && !slices.ContainsFunc(t.Ins, names) {
			places = append(places, at)
		}
	}
	return places, exits
}

// expectRun runs two traces of a machine, and holds one against the other; it tells by which exit the first one was left.
func expectRun(t *testing.T, what string, a, b api.Trace, s api.State, watched ...int) int {
	t.Helper()
	want, x := eval.Run(a, s, watched...)
	got, y := eval.Run(b, s, watched...)
	if !alike(got, want) || x.Steps != y.Steps || x.Hit != y.Hit || (x.Exit < 0) != (y.Exit < 0) || x.Exit >= 0 && a.Outs[x.Exit].Ip != b.Outs[y.Exit].Ip {
		t.Errorf("%s: of %+v with %v: %+v %+v, not %+v %+v", what, s, watched, got, y, want, x)
	}
	return x.Exit
}

// expectDo holds all that is promised of Do and Left of a trace that is right, and tells what Do made of it.
func expectDo(t *testing.T, what string, a api.Trace, of ...api.State) api.Trace {
	t.Helper()
	if !ir.Right(a) {
		t.Fatalf("%s: %+v isn't right", what, a)
	}
	was := whole(a)
	b := prune.Do(a)
	places, exits := leftOf(a)
	expect(t, what+": Left of it", prune.Left(a), len(places)+len(exits))
	expect(t, what+": stays", ir.Same(a, was), true)
	if !ir.Right(b) {
		t.Fatalf("%s: Do of %+v isn't right: %+v", what, a, b)
	}
	expect(t, what+": Start", b.Start, a.Start)
	expect(t, what+": Slots", b.Slots, a.Slots)
	expect(t, what+": Backs", b.Backs, a.Backs)
	expect(t, what+": Grow", b.Grow, a.Grow)
	expect(t, what+": GrowBack", b.GrowBack, a.GrowBack)
	expect(t, what+": Cells", slices.Equal(b.Cells, a.Cells), true)
	expect(t, what+": no more Ins", len(b.Ins) <= len(a.Ins), true)
	expect(t, what+": no more Outs", len(b.Outs) <= len(a.Outs), true)
	places, exits = leftOf(b)
	expect(t, what+": nothing is left", len(places)+len(exits), 0)
	expect(t, what+": Left of the answer", prune.Left(b), 0)
	expect(t, what+": again", len(prune.Do(b).Ins), len(b.Ins))
	for _, s := range of {
		expectRun(t, what, a, b, s)
		expectRun(t, what, a, b, s, 0, 2, 3)
	}
	return b
}

// expectLess holds what Do makes of a trace against a number that is left to do, instructions, and exits: the last one stands for Last.
func expectLess(t *testing.T, what string, a api.Trace, left int, ins []api.Ins, outs ...api.Out) {
	t.Helper()
	b := expectDo(t, what, a, states()...)
	expect(t, what+": Left", prune.Left(a), left)
	want := a
	want.Ins, want.Outs, want.Last = ins, outs, b.Last
	if !ir.Same(b, want) {
		t.Errorf("%s: %+v, not %+v", what, b, want)
	}
}

// expectIns holds what Do makes of the instructions that are more, where the end's stack is these places, against what is wanted; the exits of it may be others.
func expectIns(t *testing.T, what string, stack []int, more, want []api.Ins, wantStack []int) {
	t.Helper()
	a := trace(stack, more...)
	b := expectDo(t, what, a, states()...)
	if got := b.Outs[b.Last].Stack[2:]; !slices.Equal(got, wantStack) {
		t.Errorf("%s: the end's stack is %v, not %v", what, got, wantStack)
	}
	want = append(all(slot(0), slot(1), behind(0)), want...)
	if len(b.Ins) != len(want) {
		t.Errorf("%s: %v, not %v", what, b.Ins, want)
		return
	}
	for at, i := range want {
		got := b.Ins[at]
		for k, x := range ir.Outs(i) {
			expect(t, what+": the exit's Ip", b.Outs[ir.Outs(got)[k]].Ip, a.Outs[x].Ip)
		}
		if len(ir.Outs(i)) > 0 {
			got.X = i.X
		}
		if i.Op == api.Put {
			got.A = i.A
		}
		expect(t, what+": an instruction", got, i)
	}
}

// expectStays holds it that no instruction goes.
func expectStays(t *testing.T, what string, stack []int, more ...api.Ins) {
	t.Helper()
	expectIns(t, what, stack, more, more, stack)
}

// P1901: the chapter's example.
func TestExample(t *testing.T) {
	a := api.Trace{Start: start, Ins: all(con(5)), Outs: []api.Out{out(81, nil, nil)}}
	expectLess(t, "a Const that is not used", a, 1, nil, out(81, nil, nil))
}

// P1901: what has a value, and does nothing else, goes, if nobody names it.
func TestUnused(t *testing.T) {
	l := all(con(5), con(0), slot(0), slot(1), behind(0))
	for _, op := range slices.Concat(twos, ones) {
		l = append(l, calc(op, 0, 1), calc(op, 2, 2))
	}
	for _, i := range l {
		what := ir.Text(i)
		expectIns(t, what, nil, all(i), nil, nil)
		expectIns(t, what+", twice", nil, all(i, i), nil, nil)
		expectIns(t, what+", the first one", nums(own+1), all(i, i), all(i), nums(own))
		expectIns(t, what+", the second one", nums(own), all(i, i), all(i), nums(own))
		expectIns(t, what+" behind a guard", nil, all(must(0), i), all(must(0)), nil)
		expectIns(t, what+" ahead of a guard", nil, all(i, must(0)), all(must(0)), nil)
	}
	a := trace(nil)
	a.Outs[end] = out(81, nil, nil)
	expectLess(t, "all that a trace takes", a, 6, nil, out(81, nil, nil))
	a.Outs[end] = out(81, nums(1), nil)
	expectLess(t, "all but one", a, 5, all(slot(1)), out(81, nums(0), nil))
	a.Outs[end] = out(81, nil, nums(2))
	expectLess(t, "all but one", a, 5, all(behind(0)), out(81, nil, nums(0)))
}

// naming are instructions of all kinds that name one place, or one as the first or as the second of two.
func naming(p int) []api.Ins {
	l := all(calc(api.Div, p, 1), calc(api.Div, 1, p), calc(api.Mod, 0, p), calc(api.Mod, p, 0), calc(api.Div, p, p),
		load(p), put(p, 1), put(1, p), must(p), mustNot(p), equal(p, 0), equal(0, p), say(p), tell(p))
	return l
}

// values are instructions of all kinds that have a value.
func values() []api.Ins {
	return all(con(5), slot(0), slot(1), behind(0), ask(), load(0), calc(api.Div, 0, 1), calc(api.Mod, 1, 0), calc(api.Add, 0, 1), calc(api.Negate, 2, 0))
}

// P1901: what an instruction names, or an exit that is named, stays.
func TestNamed(t *testing.T) {
	for _, i := range values() {
		what := ir.Text(i)
		for _, k := range naming(own) {
			expectStays(t, what+", "+ir.Text(k), nil, i, k)
		}
		for _, op := range twos {
			expectStays(t, what+" and a sum", nums(own+1), i, calc(op, own, 0))
			expectStays(t, what+" and a sum", nums(own+1), i, calc(op, 0, own))
		}
		for _, op := range ones {
			expectStays(t, what+" and what is reckoned of it", nums(own+1), i, calc(op, own, 0))
		}
		expectStays(t, what+" at the end", nums(own), i)
		expectStays(t, what+" at the end, deeper", nums(own, 0, 1), i)
		for _, x := range nums(hit, spare, end) {
			a := trace(nil, i, by(x, must(0)))
			a.Outs[x].Back = nums(2, own)
			expectKeeps(t, what+" in the Back of an exit", a)
			a.Outs[x].Stack, a.Outs[x].Back = nums(0, 1, own), nums(2)
			expectKeeps(t, what+" in the Stack of an exit", a)
			a.Ins[own+1] = api.Ins{Op: api.Put, A: x, B: 0, C: 0, X: end}
			expectKeeps(t, what+" in the Stack of an exit behind a store", a)
			a.Ins[own+1].A, a.Ins[own+1].X = end, x
			expectKeeps(t, what+" in the Stack of an exit of a store", a)
		}
	}
}

// expectKeeps holds it that no instruction of a trace goes.
func expectKeeps(t *testing.T, what string, a api.Trace) {
	t.Helper()
	expect(t, what, len(expectDo(t, what, a, states()...).Ins), len(a.Ins))
}

// P1901: what may leave the trace, what stores, tells or asks, stays, though nobody needs its value.
func TestOthersStay(t *testing.T) {
	for _, i := range append(naming(0), ask()) {
		expectStays(t, ir.Text(i), nil, i)
		expectStays(t, ir.Text(i)+", twice", nil, i, i)
	}
	// By what is known, these never leave the trace: they stay, too.
	expectStays(t, "a Div of constants", nil, con(6), con(3), calc(api.Div, own, own+1))
	expectStays(t, "a Must of a constant", nil, con(6), must(own))
	expectStays(t, "a Same of one place", nil, equal(0, 0))
}

// P1901: what is named just by what nobody needs goes, too.
func TestChains(t *testing.T) {
	sums := all(con(5), calc(api.Add, own, 0), calc(api.Mul, own+1, own+1), calc(api.Sub, own+2, own), calc(api.IsNeg, own+3, 0))
	for n := range len(sums) {
		expectIns(t, "nobody needs a sum", nil, sums[:n+1], nil, nil)
		expectStays(t, "the end needs a sum", nums(own+n), sums[:n+1]...)
		expectIns(t, "the end needs a sum ahead of others", nums(own+n), sums, sums[:n+1], nums(own+n))
		expectStays(t, "a guard needs a sum", nil, append(slices.Clone(sums[:n+1]), must(own+n))...)
	}
	expectIns(t, "of a Load", nil, all(load(0), calc(api.Add, own, 1)), all(load(0)), nil)
	expectIns(t, "of an Ask", nil, all(ask(), calc(api.Add, own, own)), all(ask()), nil)
	expectIns(t, "of a Div", nil, all(con(2), calc(api.Div, 0, own), calc(api.Add, own+1, own)), all(con(2), calc(api.Div, 0, own)), nil)
	expectIns(t, "of two, one is needed", nums(own+2), all(con(2), con(3), calc(api.Add, own, 0), calc(api.Add, own+1, own)), all(con(2), calc(api.Add, own, 0)), nums(own+1))
	for _, i := range all(calc(api.Add, own, own), calc(api.Max, 0, own), calc(api.Negate, own, 0)) {
		expectIns(t, "a Div needs what is reckoned", nil, all(con(2), i, calc(api.Div, 1, own+1)), all(con(2), i, calc(api.Div, 1, own+1)), nil)
		expectIns(t, "a Div needs just what it is reckoned of", nil, all(con(2), i, calc(api.Div, 1, own)), all(con(2), calc(api.Div, 1, own)), nil)
	}
}

// P1901: numbers that name nothing, as the instruction doesn't ask them, keep nothing.
func TestNoNames(t *testing.T) {
	for _, op := range ones {
		expectIns(t, "C of an operation of one", nums(own+1), all(con(5), calc(op, 0, own)), all(calc(op, 0, own)), nums(own))
	}
	// Each is needed, and its numbers tell of the Const ahead of it, or of an exit that nobody names.
	for _, i := range []api.Ins{{Op: api.Const, A: own, B: own, C: own, X: spare}, {Op: api.Slot, B: own, C: own, X: spare}, {Op: api.Behind, B: own, C: own, X: spare}, {Op: api.Ask, A: spare, B: own, C: own, X: spare}, {Op: api.Calc, A: api.Add, X: spare}, {Op: api.Calc, A: api.Negate, C: own, X: spare}} {
		a := trace(nums(own+1), con(5), i)
		expectLess(t, ir.Text(i), a, 4, append(slices.Clone(a.Ins[:own]), i), out(81, nums(0, 1, own), nums(2)))
	}
	for _, i := range []api.Ins{{Op: api.Load, A: spare, C: own}, {Op: api.Must, A: spare, C: own}, {Op: api.MustNot, A: spare, C: own}, {Op: api.Say, A: spare, C: own}, {Op: api.Tell, A: spare, C: own}, {Op: api.Same, A: spare}} {
		a := trace(nil, con(5), i)
		expectLess(t, ir.Text(i), a, 3, append(slices.Clone(a.Ins[:own]), i), a.Outs[aside], out(81, nums(0, 1), nums(2)))
	}
	// What nobody asks stays as it is where it may be anything.
	for _, v := range edges() {
		i := api.Ins{Op: api.Calc, A: api.Invert, C: v, X: v}
		a := trace(nums(own+1), con(5), i)
		expectLess(t, ir.Text(i), a, 4, append(slices.Clone(a.Ins[:own]), i), out(81, nums(0, 1, own), nums(2)))
	}
}

// P1901: no exit is left that is not named, wherever it stands; who names one names it where it is then.
func TestExits(t *testing.T) {
	for _, i := range append(naming(0), equal(1, 0)) {
		for x := range 4 {
			for y := range 4 {
				a := trace(nil, i)
				a.Ins[own].X, a.Last = x, y
				a.Outs[aside].Steps = 5
				named := nums(x, y)
				if i.Op == api.Put {
					for z := range 4 {
						a.Ins[own].A = z
						expectExits(t, ir.Text(i), a, append(named, z))
					}
					continue
				}
				expectExits(t, ir.Text(i), a, named)
			}
		}
	}
	a := trace(nil, by(3, must(0)), by(0, must(1)), by(3, mustNot(2)), by(1, tell(0)))
	expectExits(t, "many", a, nums(0, 1, 3))
	a.Last = 3
	expectExits(t, "many, and others at the end", a, nums(0, 1, 3))
	a.Ins[own+1].X, a.Ins[own+3].X = 3, 3
	expectExits(t, "one of all", a, nums(3))
	a.Ins = a.Ins[:own]
	a.Last = 2
	expectExits(t, "just the last one", a, nums(2))
}

// expectExits holds it that of a trace just these exits are left, in their order, and named by whom they were.
func expectExits(t *testing.T, what string, a api.Trace, named []int) {
	t.Helper()
	b := expectDo(t, what, a, states()...)
	slices.Sort(named)
	var ips []int
	for _, x := range slices.Compact(named) {
		ips = append(ips, a.Outs[x].Ip)
	}
	var got []int
	for _, o := range b.Outs {
		got = append(got, o.Ip)
	}
	if !slices.Equal(got, ips) {
		t.Errorf("%s: exits at %v, not %v", what, got, ips)
		return
	}
	expect(t, what+": the last one's Ip", b.Outs[b.Last].Ip, a.Outs[a.Last].Ip)
	for at, i := range b.Ins[len(b.Ins)-(len(a.Ins)-own):] {
		for k, x := range ir.Outs(i) {
			expect(t, what+": the Ip of an exit that is named", b.Outs[x].Ip, a.Outs[ir.Outs(a.Ins[own+at])[k]].Ip)
		}
	}
}

// P1901: what stands in an exit that nobody names keeps nothing, and may be anything.
func TestUnnamed(t *testing.T) {
	for _, p := range nums(0, own, own+1, own+2, own+3, 999, 1000, -1, least, greatest) {
		a := trace(nil, con(5), must(0), calc(api.Add, own, 0))
		a.Outs[hit].Stack, a.Outs[hit].Back = nums(p, own, p), nums(p)
		a.Outs[spare].Stack, a.Outs[spare].Back = nil, nums(own+2)
		expectLess(t, "unnamed", a, 3, append(slices.Clone(a.Ins[:own]), must(0)), a.Outs[aside], a.Outs[end])
	}
}

// P1901: all that is behind what has gone names the places where things are now, and so does the end.
func TestMoves(t *testing.T) {
	moved := naming(own + 1)
	for k, i := range naming(own + 4) {
		expectIns(t, ir.Text(i), nums(own+4, own+1, own+6, 1),
			all(con(1), load(0), calc(api.Add, own, 0), slot(1), calc(api.Sub, own+1, 2), i, calc(api.Mul, own+1, own+4)),
			all(load(0), calc(api.Sub, own, 2), moved[k], calc(api.Mul, own, own+1)),
			nums(own+1, own, own+3, 1))
	}
}

// P1901: places move in both lists of exits that are named, and exits move, too.
func TestMovesExits(t *testing.T) {
	a := trace(nil,
		con(5), load(1), slot(0), by(hit, must(1)), calc(api.Add, own+1, 0), con(6), api.Ins{Op: api.Put, A: 4, B: 1, C: own + 4, X: 5}, behind(0), by(hit, mustNot(own+4)))
	a.Ins[own+1].X = 4
	a.Outs = []api.Out{
		out(70, nums(999), nums(-1)),
		out(81, nums(own+4, own+1, own+7), nums(own+7, own+4)),
		out(92, nums(1), nums(own+1, own+2)),
		out(103, nums(own+5), nil),
		out(114, nil, nums(0)),
		out(125, nums(own+4, own+1), nil),
	}
	expectLess(t, "exits", a, 5,
		all(slot(0), slot(1), by(2, load(1)), slot(0), by(1, must(1)), calc(api.Add, 2, 0), api.Ins{Op: api.Put, A: 2, B: 1, C: 5, X: 3}, behind(0), by(1, mustNot(5))),
		out(81, nums(5, 2, 7), nums(7, 5)), out(92, nums(1), nums(2, 3)), out(114, nil, nums(0)), out(125, nums(5, 2), nil))
}

// P1902: Left counts what is there, as it stands: not what nobody needs any more when other things have gone.
func TestLeft(t *testing.T) {
	for _, c := range []struct {
		more []api.Ins
		left int // beside three exits
	}{
		{nil, 0},
		{all(con(2)), 1},
		{all(con(2), con(2), slot(0), behind(0)), 4},
		{all(con(2), calc(api.Add, own, own)), 1},
		{all(con(2), calc(api.Add, own, own), calc(api.Add, own+1, own)), 1},
		{all(con(2), calc(api.Add, own, own), calc(api.Add, own, own)), 2},
		{all(con(2), ask(), calc(api.Negate, own+1, own)), 2},
	} {
		a := trace(nil, c.more...)
		expect(t, "Left", prune.Left(a), c.left+3)
		expectDo(t, "Left", a, states()...)
	}
	a := trace(nil, con(2), con(3), calc(api.Div, own, 0), calc(api.Add, own+1, own+2))
	expect(t, "Left with an exit that is named", prune.Left(a), 1+2)
	a.Outs[hit].Stack = nums(own + 3)
	expect(t, "Left with a place in an exit that isn't", prune.Left(a), 1+2)
	a.Outs[end].Back = nums(own + 3)
	expect(t, "Left with a place in the last one, in another one's stead", prune.Left(a), 1+2)
	expect(t, "the one", len(prune.Do(a).Ins), len(a.Ins)-1)
}

// P1901: as many instructions and exits as there may be.
func TestMany(t *testing.T) {
	a := api.Trace{Slots: 1, Ins: make([]api.Ins, 1000), Outs: make([]api.Out, 300), Last: 150}
	for x := range a.Outs {
		a.Outs[x] = api.Out{Ip: x, Steps: 1, Stack: nums(0)}
	}
	of := func(what string, left, ins, outs int, make func(at int) api.Ins) {
		t.Helper()
		a.Ins[0] = slot(0)
		for at := 1; at < 1000; at++ {
			a.Ins[at] = make(at)
		}
		expect(t, what+": Left", prune.Left(a), left)
		b := expectDo(t, what, a, api.State{Stack: nums(1), Mem: nums(1, 1)})
		expect(t, what+": how many", len(b.Ins), ins)
		expect(t, what+": how many exits", len(b.Outs), outs)
	}
	of("constants", 999+299, 1, 1, func(at int) api.Ins { return con(at) })
	of("a chain", 1+299, 1, 1, func(at int) api.Ins { return calc(api.Add, at-1, at-1) })
	of("guards", 0, 1000, 300, func(at int) api.Ins { return by(at%300, must(0)) })
	of("loads of sums", 1+150, 999, 150, func(at int) api.Ins {
		if at%2 == 1 {
			return calc(api.Add, at-1, at-1)
		}
		return by(at%300, load(at-1))
	})
	a.Outs[150].Stack = nums(999)
	of("a chain that is needed", 299, 1000, 1, func(at int) api.Ins { return calc(api.Sub, at-1, at-1) })
	a.Ins = append(a.Ins, con(1))
	expectAsItIs(t, "one too many", a)
}

// P1901: the least traces.
func TestLeast(t *testing.T) {
	a := api.Trace{Outs: []api.Out{{Steps: 1}}}
	expectLess(t, "no instructions", a, 0, nil, a.Outs...)
	a.Outs = append([]api.Out{{Ip: 4}, {Ip: 5, Stack: nums(1)}}, a.Outs...)
	a.Last, a.Grow = 2, 1
	expectLess(t, "no instructions, and exits", a, 2, nil, a.Outs[2])
	a.Ins = all(api.Ins{Op: api.Load}, con(0), api.Ins{Op: api.Load, B: 0})
	expectAsItIs(t, "a Load of itself", a)
	a.Ins = all(con(0), api.Ins{Op: api.Load, X: 2})
	expectLess(t, "a Load that nobody needs", a, 2, all(con(0), by(0, load(0))), a.Outs[2])
}

// expectAsItIs holds it that a trace that isn't right is left as it is, and nothing is left of it.
func expectAsItIs(t *testing.T, what string, a api.Trace) {
	t.Helper()
	expect(t, what+": right", ir.Right(a), false)
	was := whole(a)
	b := prune.Do(a)
	expect(t, what+": as it is", ir.Same(b, was), true)
	expect(t, what+": Left", prune.Left(a), 0)
	expect(t, what+": stays", ir.Same(a, was), true)
	spoil(b)
	expect(t, what+": its own", ir.Same(a, was), true)
}

// P1901, P1902: traces that are not right.
func TestNotRight(t *testing.T) {
	expectAsItIs(t, "zero", api.Trace{})
	for what, wrong := range map[string]func(a *api.Trace){
		"Start":           func(a *api.Trace) { a.Start = -1 },
		"Slots":           func(a *api.Trace) { a.Slots = 1 },
		"Grow":            func(a *api.Trace) { a.Grow = 49 },
		"Last":            func(a *api.Trace) { a.Last = 4 },
		"Last below":      func(a *api.Trace) { a.Last = -1 },
		"no Outs":         func(a *api.Trace) { a.Outs = nil },
		"Steps of Last":   func(a *api.Trace) { a.Outs[end].Steps = 0 },
		"Steps of others": func(a *api.Trace) { a.Outs[spare].Steps = -1 },
		"Ip of others":    func(a *api.Trace) { a.Outs[spare].Ip = api.MaxMem },
		"much in others":  func(a *api.Trace) { a.Outs[spare].Back = make([]int, 6) },
		"Cells":           func(a *api.Trace) { a.Cells = nums(5, 5) },
		"no instruction":  func(a *api.Trace) { a.Ins[own].Op = 0 },
		"no operation":    func(a *api.Trace) { a.Ins[own+1].A = api.Dup },
		"a later place":   func(a *api.Trace) { a.Ins[own+1].C = own + 1 },
		"no place":        func(a *api.Trace) { a.Ins[own+1].B = -1 },
		"far":             func(a *api.Trace) { a.Ins[own+2].B = greatest },
		"no value":        func(a *api.Trace) { a.Ins[own+3].B = own + 2 },
		"no exit":         func(a *api.Trace) { a.Ins[own+2].X = 4 },
		"no exit behind":  func(a *api.Trace) { a.Ins[own+4].A = least },
		"an exit's place": func(a *api.Trace) { a.Outs[end].Stack = nums(own + 2) },
		"far in an exit":  func(a *api.Trace) { a.Outs[end].Back = nums(least) },
	} {
		a := trace(nums(own), con(4), calc(api.Add, own, 0), must(own), tell(own), put(own, own), con(5))
		expect(t, "right at first", ir.Right(a), true)
		expect(t, "much is left at first", prune.Left(a), 3)
		wrong(&a)
		expectAsItIs(t, what, a)
	}
}
