package fold_test

import (
	"math"
	"slices"
	"testing"

	"holloway/api"
	"holloway/cell"
	"holloway/eval"
	"holloway/fold"
	"holloway/ir"
)

const (
	least    = math.MinInt
	greatest = math.MaxInt
)

// twos and ones are the operations of two cells, and of one.
var (
	twos = []int{
		api.Add, api.Sub, api.Mul, api.Div, api.Mod, api.And, api.Or, api.Xor, api.Left, api.Right,
		api.Equal, api.Less, api.ULess, api.Min, api.Max,
	}
	ones = []int{api.Negate, api.Invert, api.IsZero, api.IsNeg}
)

// These are the exits of the traces that are made here, and where the machine is then.
const (
	aside   = 0
	end     = 1
	hit     = 2
	asideIp = 70
	endIp   = 80
	hitIp   = 90
)

const (
	start = 7 // where they begin
	own   = 3 // the place of the first instruction that is more
)

// nums makes a list.
func nums(l ...int) []int { return l }

// trace makes one that takes two cells of the stack (places 0 and 1) and one of the return stack (place 2): at its end these places lie there instead.
func trace(stack, back []int, more ...api.Ins) api.Trace {
	return api.Trace{
		Start: start, Slots: 2, Backs: 1, Grow: 6, GrowBack: 4,
		Ins: append([]api.Ins{{Op: api.Slot, A: 0}, {Op: api.Slot, A: 1}, {Op: api.Behind, A: 0}}, more...),
		Outs: []api.Out{
			aside: {Ip: asideIp, Steps: 0, Stack: nums(1, 0), Back: nums(2)},
			end:   {Ip: endIp, Steps: 9, Stack: stack, Back: back},
			hit:   {Ip: hitIp, Steps: 5, Stack: nums(0), Back: nums(2, 1)},
		},
		Last: end, Cells: nums(7, 8, 11),
	}
}

func con(v int) api.Ins { return api.Ins{Op: api.Const, A: v} }

func calc(op, b, c int) api.Ins { return api.Ins{Op: api.Calc, A: op, B: b, C: c, X: aside} }

func must(b int) api.Ins    { return api.Ins{Op: api.Must, B: b, X: aside} }
func mustNot(b int) api.Ins { return api.Ins{Op: api.MustNot, B: b, X: aside} }
func equal(b, c int) api.Ins {
	return api.Ins{Op: api.Same, B: b, C: c, X: aside}
}

// edges are numbers that would be others in fewer bits, or without a sign.
func edges() []int {
	return nums(least, least+1, -1<<32, -256, -7, -2, -1, 0, 1, 2, 3, 63, 64, 255, 256, 1<<31, 1<<32, 1<<32+1, greatest-1, greatest)
}

// states are machines in which trace may be entered, and one in which it may not be.
func states() []api.State {
	var l []api.State
	for _, stack := range [][]int{nums(9, 1, 2), nums(0, 0), nums(-1, 3, 3), nums(4, 5, 0), nums(2, least)} {
		l = append(l, api.State{Ip: start, Handler: 2, Stack: stack, Back: nums(31, 4), Mem: nums(100, 0, 2, 103, 104), Out: "<", In: "xyz", Read: 1, Code: -44})
	}
	return append(l, api.State{Ip: start, Stack: nums(1), Back: nums(4)})
}

func expect[T comparable](t *testing.T, what string, got, want T) {
	t.Helper()
	if got != want {
		t.Errorf("%s: %v, not %v", what, got, want)
	}
}

// alike tells whether two machines are; lists that are nil and empty are one.
func alike(a, b api.State) bool {
	return a.Ip == b.Ip && a.Handler == b.Handler && a.Out == b.Out && a.In == b.In && a.Read == b.Read &&
		a.Status == b.Status && a.Code == b.Code &&
		slices.Equal(a.Stack, b.Stack) && slices.Equal(a.Back, b.Back) && slices.Equal(a.Mem, b.Mem)
}

// whole makes a copy of a trace.
func whole(t api.Trace) api.Trace {
	t.Ins, t.Cells, t.Outs = slices.Clone(t.Ins), slices.Clone(t.Cells), slices.Clone(t.Outs)
	for k, x := range t.Outs {
		t.Outs[k].Stack, t.Outs[k].Back = slices.Clone(x.Stack), slices.Clone(x.Back)
	}
	return t
}

// leftOf counts, by the words of P1701, what may not be left in a trace that is right.
func leftOf(t api.Trace) int {
	left := 0
	for _, i := range t.Ins {
		b, c, all := 0, 0, true
		for k, p := range ir.Uses(i) {
			all = all && t.Ins[p].Op == api.Const
			if k == 0 {
				b = t.Ins[p].A
			} else {
				c = t.Ins[p].A
			}
		}
		if !all {
			continue
		}
		switch {
		case i.Op == api.Calc && !((i.A == api.Div || i.A == api.Mod) && c == 0),
			i.Op == api.Must && b != 0, i.Op == api.MustNot && b == 0, i.Op == api.Same && b == c:
			left++
		}
	}
	return left
}

// expectRun runs two traces of a machine, and holds one against the other; it tells by which exit the first one was left.
func expectRun(t *testing.T, what string, a, b api.Trace, s api.State, watched ...int) int {
	t.Helper()
	want, x := eval.Run(a, s, watched...)
	got, y := eval.Run(b, s, watched...)
	if !alike(got, want) || x.Steps != y.Steps || x.Hit != y.Hit || (x.Exit < 0) != (y.Exit < 0) || x.Exit >= 0 && a.Outs[x.Exit].Ip != b.Outs[y.Exit].Ip {
		t.Errorf("%s: of %+v with %v: %+v %+v, not %+v %+v", what, s, watched, got, y, want, x)
	}
	return x.Exit
}

// expectDo holds all that is promised of Do and Left of a trace that is right, and tells what Do made of it.
func expectDo(t *testing.T, what string, a api.Trace, of ...api.State) api.Trace {
	t.Helper()
	if !ir.Right(a) {
		t.Fatalf("%s: %+v isn't right", what, a)
	}
	was := whole(a)
	b := fold.Do(a)
	expect(t, what+": stays", ir.Same(a, was), true)
	if !ir.Right(b) {
		t.Fatalf("%s: Do of %+v isn't right: %+v", what, a, b)
	}
	expect(t, what+": Start", b.Start, a.Start)
	expect(t, what+": Slots", b.Slots, a.Slots)
	expect(t, what+": Backs", b.Backs, a.Backs)
	expect(t, what+": Grow", b.Grow, a.Grow)
	expect(t, what+": GrowBack", b.GrowBack, a.GrowBack)
	expect(t, what+": Cells", slices.Equal(b.Cells, a.Cells), true)
	expect(t, what+": no more Ins", len(b.Ins) <= len(a.Ins), true)
	expect(t, what+": no more Outs", len(b.Outs) <= len(a.Outs), true)
	expect(t, what+": nothing is left", leftOf(b), 0)
	expect(t, what+": Left of it", fold.Left(a), leftOf(a))
	expect(t, what+": Left of the answer", fold.Left(b), 0)
	expect(t, what+": again", len(fold.Do(b).Ins), len(b.Ins))
	for _, s := range of {
		expectRun(t, what, a, b, s)
		expectRun(t, what, a, b, s, 0, 2, 3)
	}
	return b
}

// expectIns holds what Do makes of the instructions that are more, where the end's stack is these places.
func expectIns(t *testing.T, what string, stack []int, more, want []api.Ins) {
	t.Helper()
	b := expectDo(t, what, trace(stack, nums(2), more...), states()...)
	if !slices.Equal(b.Ins[own:], want) {
		t.Errorf("%s: %v, not %v", what, b.Ins[own:], want)
	}
}

// P1701: the chapter's example.
func TestExample(t *testing.T) {
	a := api.Trace{Start: 5, Grow: 1, Ins: []api.Ins{con(2), con(3), {Op: api.Calc, A: api.Add, B: 0, C: 1}}, Outs: []api.Out{{Ip: 5, Steps: 1, Stack: nums(2)}}}
	b := expectDo(t, "example", a, api.State{Ip: 5})
	expect(t, "how many", len(b.Ins), 3)
	expect(t, "the third", b.Ins[2], con(5))
	expect(t, "Left", fold.Left(a), 1)
}

// P1701: what some operations make of constants, by hand.
func TestSums(t *testing.T) {
	for _, c := range []struct{ op, b, c, want int }{
		{api.Add, greatest, 1, least}, {api.Sub, 2, 5, -3}, {api.Sub, least, 1, greatest}, {api.Mul, 1 << 62, 4, 0}, {api.Mul, -6, 7, -42},
		{api.Div, -7, 2, -4}, {api.Div, 7, -2, -4}, {api.Div, least, -1, least}, {api.Div, 0, 5, 0}, {api.Mod, -7, 2, 1}, {api.Mod, 7, -2, -1}, {api.Mod, least, -1, 0},
		{api.And, 12, 10, 8}, {api.Or, 12, 10, 14}, {api.Xor, 12, 10, 6},
		{api.Left, 1, 63, least}, {api.Left, 1, 64, 0}, {api.Left, 1, -1, 0}, {api.Right, -1, 63, 1}, {api.Right, -1, 64, 0}, {api.Right, 5, 1, 2},
		{api.Equal, 4, 4, -1}, {api.Equal, 4, 5, 0}, {api.Less, -1, 1, -1}, {api.Less, 1, 1, 0}, {api.ULess, -1, 1, 0}, {api.ULess, 1, -1, -1},
		{api.Min, -3, 2, -3}, {api.Max, -3, 2, 2},
		{api.Negate, 5, 0, -5}, {api.Negate, least, 9, least}, {api.Invert, 0, 9, -1}, {api.IsZero, 0, 9, -1}, {api.IsZero, 4, 0, 0}, {api.IsNeg, -4, 0, -1}, {api.IsNeg, 4, -1, 0},
	} {
		expectIns(t, ir.Text(calc(c.op, c.b, c.c)), nums(own+2), []api.Ins{con(c.b), con(c.c), calc(c.op, own, own+1)}, []api.Ins{con(c.b), con(c.c), con(c.want)})
	}
}

// P1701: no Calc of constants is left, whatever the operation, but Div and Mod by 0, whose exit is taken.
func TestOperations(t *testing.T) {
	for _, op := range slices.Concat(twos, ones) {
		for _, b := range edges() {
			for _, c := range edges() {
				i := calc(op, own, own+1)
				v, is := cell.Two(op, b, c)
				if slices.Contains(ones, op) {
					v, is = cell.One(op, b)
				}
				want := con(v)
				if !is {
					want = i
				}
				byZero := (op == api.Div || op == api.Mod) && c == 0
				expect(t, ir.Text(i), is, !byZero)
				expectIns(t, ir.Text(i), nums(own+2), []api.Ins{con(b), con(c), i}, []api.Ins{con(b), con(c), want})
			}
		}
	}
}

// P1701: what is not known of one value is not known: of two values both have to be constants, of one just B.
func TestUnknown(t *testing.T) {
	for _, op := range twos {
		for _, i := range []api.Ins{calc(op, own, 0), calc(op, 0, own), calc(op, 0, 0), calc(op, 1, 2)} {
			for _, v := range nums(0, 1, -1) {
				expectIns(t, ir.Text(i), nums(own+1), []api.Ins{con(v), i}, []api.Ins{con(v), i})
			}
		}
	}
	for _, op := range ones {
		// What no operation of one asks is whatever it is: a place, or none.
		for _, c := range nums(0, 1, own, own+1, own+2, -1, least, greatest, 1000) {
			v, _ := cell.One(op, 5)
			i := calc(op, own, c)
			i.X = c
			expectIns(t, ir.Text(i), nums(own+1), []api.Ins{con(5), i}, []api.Ins{con(5), con(v)})
			i.B = 1
			expectIns(t, ir.Text(i), nums(own+1), []api.Ins{con(5), i}, []api.Ins{con(5), i})
		}
	}
	for _, i := range []api.Ins{{Op: api.Ask}, {Op: api.Slot, A: 1}, {Op: api.Behind}, {Op: api.Load, B: 0, X: aside}} {
		more := []api.Ins{i, calc(api.Add, own, own), calc(api.Negate, own, 0), must(own), mustNot(own), equal(own, own)}
		expectIns(t, ir.Text(i), nums(own+1, own+2), more, more)
	}
	memory := []api.Ins{con(2), con(9), {Op: api.Put, A: hit, B: own, C: own + 1, X: aside}, {Op: api.Load, B: own, X: aside}, must(own + 3), equal(own+3, own+1)}
	expectIns(t, "a cell", nums(own+3), memory, memory)
}

// P1701: no guard of constants that holds is left; one that doesn't hold is.
func TestGuards(t *testing.T) {
	for _, b := range edges() {
		expectGuard(t, must(own), b != 0, b, 1)
		expectGuard(t, mustNot(own), b == 0, b, 1)
		expectGuard(t, equal(own, own), true, b, 1)
		for _, c := range edges() {
			expectGuard(t, equal(own, own+1), b == c, b, c)
			expectGuard(t, equal(own+1, own), b == c, b, c)
			expectGuard(t, must(own+1), c != 0, b, c)
			expectGuard(t, mustNot(own+1), c == 0, b, c)
		}
	}
}

// expectGuard holds it whether a guard of one of two constants, or of both, goes.
func expectGuard(t *testing.T, i api.Ins, goes bool, b, c int) {
	t.Helper()
	more := []api.Ins{con(b), con(c), i}
	want := more
	if goes {
		want = more[:2]
	}
	expectIns(t, ir.Text(i), nums(own+1, own), more, want)
}

// P1701: guards of which one value is no constant, or none is, stay.
func TestGuardsStay(t *testing.T) {
	for _, i := range []api.Ins{must(0), mustNot(0), equal(0, 0), equal(own, 0), equal(0, own), equal(0, 1)} {
		for _, v := range nums(0, 1, 2) {
			expectIns(t, ir.Text(i), nums(0), []api.Ins{con(v), i}, []api.Ins{con(v), i})
		}
	}
}

// P1701: what comes of constants is a constant too, for all that is behind it.
func TestChains(t *testing.T) {
	expectIns(t, "sums", nums(own+4),
		[]api.Ins{con(2), con(3), calc(api.Add, own, own+1), calc(api.Mul, own+2, own+2), calc(api.Sub, own+3, own)},
		[]api.Ins{con(2), con(3), con(5), con(25), con(23)})
	expectIns(t, "a guard of a sum", nums(own),
		[]api.Ins{con(7), calc(api.Negate, own, 0), calc(api.IsNeg, own+1, 0), must(own + 2), mustNot(own + 2)},
		[]api.Ins{con(7), con(-7), con(-1), mustNot(own + 2)})
	expectIns(t, "Same of sums", nums(own+2),
		[]api.Ins{con(2), calc(api.Add, own, own), calc(api.Mul, own, own), equal(own+1, own+2), equal(own, own+1), equal(own+2, own+1)},
		[]api.Ins{con(2), con(4), con(4), equal(own, own+1)})
	expectIns(t, "by a sum that is 0", nums(own+3, own+4),
		[]api.Ins{con(2), calc(api.Sub, own, own), con(8), calc(api.Div, own+2, own+1), calc(api.Add, own+3, own)},
		[]api.Ins{con(2), con(0), con(8), calc(api.Div, own+2, own+1), calc(api.Add, own+3, own)})
	expectIns(t, "by a sum that is not 0", nums(own+2),
		[]api.Ins{con(2), calc(api.Add, own, own), calc(api.Mod, own, own+1), mustNot(own + 2)},
		[]api.Ins{con(2), con(4), con(2), mustNot(own + 2)})
	expectIns(t, "with a cell between", nums(own+2),
		[]api.Ins{con(3), calc(api.Add, 0, own), calc(api.Sub, own+1, own)},
		[]api.Ins{con(3), calc(api.Add, 0, own), calc(api.Sub, own+1, own)})
}

// P1702: Left counts what is there, as it stands: not what comes of it.
func TestLeft(t *testing.T) {
	for _, c := range []struct {
		more []api.Ins
		left int
	}{
		{nil, 0},
		{[]api.Ins{con(2), calc(api.Add, own, own)}, 1},
		{[]api.Ins{con(2), calc(api.Add, own, own), calc(api.Add, own+1, own), must(own + 2)}, 1},
		{[]api.Ins{con(2), calc(api.Add, own, own), calc(api.Mul, own, own), must(own), equal(own, own), mustNot(own)}, 4},
		{[]api.Ins{con(0), calc(api.Div, own, own), calc(api.Mod, own, own), calc(api.Mul, own, own), mustNot(own), must(own)}, 2},
		{[]api.Ins{calc(api.Add, 0, 1), must(own), equal(0, 0)}, 0},
	} {
		a := trace(nums(0), nil, c.more...)
		expect(t, "Left", fold.Left(a), c.left)
		expectDo(t, "Left", a, states()...)
	}
}

// naming are instructions of all kinds that name two places.
func naming(p, q int) []api.Ins {
	return []api.Ins{
		calc(api.Add, 0, p), calc(api.Sub, p, 0), calc(api.Div, 1, p), calc(api.Mod, p, q), calc(api.Invert, p, 77),
		{Op: api.Load, B: p, X: hit}, {Op: api.Put, A: hit, B: p, C: q, X: aside}, {Op: api.Put, A: aside, B: q, C: 0, X: hit},
		must(p), mustNot(q), equal(p, q), equal(q, 0),
		{Op: api.Say, B: p, X: aside}, {Op: api.Tell, B: q, X: hit}, {Op: api.Ask, A: 4, B: 5, C: 6, X: 7},
	}
}

// P1701: where a guard has gone all that is behind it names the places where things are now, and exits do.
func TestMoves(t *testing.T) {
	moved := naming(own+1, own+2)
	for k, i := range naming(own+2, own+4) {
		expectIns(t, ir.Text(i), nums(own+2, own, own+4, 0),
			[]api.Ins{con(1), must(own), {Op: api.Load, B: own, X: aside}, equal(own, own), calc(api.Add, 1, 2), i, {Op: api.Tell, B: own + 4, X: aside}},
			[]api.Ins{con(1), {Op: api.Load, B: own, X: aside}, calc(api.Add, 1, 2), moved[k], {Op: api.Tell, B: own + 2, X: aside}})
	}
}

// P1701: the places in exits move, in both lists of the last one, and of those that guards name.
func TestMovesExits(t *testing.T) {
	a := trace(nums(own+3, own, own+4), nums(own+4, 2, own+3),
		con(6), must(own), equal(own, own), con(7), calc(api.Add, own+3, 0), must(0), api.Ins{Op: api.Put, A: hit, B: 1, C: own + 4, X: 3}, con(0), must(own+7))
	a.Outs[hit] = api.Out{Ip: hitIp, Steps: 3, Stack: nums(own+4, own+3), Back: nums(own)}
	a.Outs = append(a.Outs, api.Out{Ip: 91, Steps: 2, Stack: nums(own+3, 1), Back: nums(own+4, own+3)})
	b := expectDo(t, "exits", a, states()...)
	expect(t, "how many", len(b.Ins), len(a.Ins)-2)
	c := a
	c.Ins = slices.Clone(a.Ins[:own+7])
	c.Ins[own+5] = must(own)
	b = expectDo(t, "to the end", c, states()...)
	expect(t, "how many", len(b.Ins), len(c.Ins)-3)
	exits := map[int]int{}
	for _, s := range states() {
		for _, watched := range [][]int{nil, nums(0, 1, 2, 3, 4)} {
			exits[expectRun(t, "to the end", c, b, s, watched...)]++
		}
	}
	for _, x := range nums(end, hit, 3) {
		expect(t, "an exit is taken", exits[x] > 0, true)
	}
}

// P1701: an exit that nobody names, or nobody any more, may be or go; what stands in it is whatever it is.
func TestUnnamed(t *testing.T) {
	for _, p := range nums(0, own, own+1, own+2, own+3, 999, 1000, -1, least, greatest) {
		a := trace(nums(own+2), nil, con(6), must(own), calc(api.Mul, own, own))
		a.Outs[hit].Stack, a.Outs[hit].Back = nums(p, 0, p), nums(p)
		expectDo(t, "unnamed", a, states()...)
	}
	a := trace(nums(own+1), nil, con(6), calc(api.Div, own, own))
	a.Ins[own+1].X = hit
	b := expectDo(t, "a Div that is known", a, states()...)
	expect(t, "it is a constant", b.Ins[own+1], con(1))
}

// P1701: as many instructions and exits as there may be.
func TestMany(t *testing.T) {
	sums := []api.Ins{con(1)}
	for at := range 999 {
		sums = append(sums, calc(api.Add, at, 0))
	}
	a := api.Trace{Slots: 1, Ins: sums, Outs: make([]api.Out, 300), Last: 299}
	a.Outs[299] = api.Out{Steps: 1, Stack: nums(999)}
	b := expectDo(t, "sums", a, api.State{Stack: nums(5)})
	expect(t, "how many", len(b.Ins), 1000)
	expect(t, "the last", b.Ins[999], con(1000))
	for at := 1; at < 1000; at++ {
		a.Ins[at] = must(0)
		a.Ins[at].X = at % 300
	}
	a.Outs[299].Stack = nil
	expect(t, "Left", fold.Left(a), 999)
	expect(t, "guards", len(expectDo(t, "guards", a, api.State{Stack: nums(5)}).Ins), 1)
	a.Ins = append(a.Ins, con(1))
	expectAsItIs(t, "one too many", a)
}

// P1701: the least traces.
func TestLeast(t *testing.T) {
	b := expectDo(t, "no instructions", api.Trace{Outs: []api.Out{{Steps: 1}}}, api.State{}, api.State{Ip: 1})
	expect(t, "no instructions", len(b.Ins), 0)
	b = expectDo(t, "a constant", api.Trace{Ins: []api.Ins{con(3)}, Outs: []api.Out{{Steps: 1}}}, api.State{})
	expect(t, "nobody needs it, but it is left", len(b.Ins), 1)
}

// expectAsItIs holds it that a trace that isn't right is left as it is, and nothing is left of it.
func expectAsItIs(t *testing.T, what string, a api.Trace) {
	t.Helper()
	expect(t, what+": right", ir.Right(a), false)
	was := whole(a)
	b := fold.Do(a)
	expect(t, what+": as it is", ir.Same(b, was), true)
	expect(t, what+": stays", ir.Same(a, was), true)
	expect(t, what+": Left", fold.Left(a), 0)
	spoil(b)
	expect(t, what+": its own", ir.Same(a, was), true)
}

// P1701, P1702: traces that are not right.
func TestNotRight(t *testing.T) {
	expectAsItIs(t, "zero", api.Trace{})
	for what, wrong := range map[string]func(a *api.Trace){
		"Start":           func(a *api.Trace) { a.Start = -1 },
		"Slots":           func(a *api.Trace) { a.Slots = 1 },
		"Grow":            func(a *api.Trace) { a.Grow = 49 },
		"Last":            func(a *api.Trace) { a.Last = 3 },
		"Last below":      func(a *api.Trace) { a.Last = -1 },
		"no Outs":         func(a *api.Trace) { a.Outs = nil },
		"Steps of Last":   func(a *api.Trace) { a.Outs[end].Steps = 0 },
		"Cells":           func(a *api.Trace) { a.Cells = nums(5, 5) },
		"no instruction":  func(a *api.Trace) { a.Ins[own].Op = 0 },
		"no operation":    func(a *api.Trace) { a.Ins[own+2].A = api.Dup },
		"a later place":   func(a *api.Trace) { a.Ins[own+2].C = own + 2 },
		"no place":        func(a *api.Trace) { a.Ins[own+2].B = -1 },
		"far":             func(a *api.Trace) { a.Ins[own+3].B = greatest },
		"no value":        func(a *api.Trace) { a.Ins[own+4].B = own + 3 },
		"no exit":         func(a *api.Trace) { a.Ins[own+3].X = 3 },
		"an exit's place": func(a *api.Trace) { a.Outs[end].Stack = nums(own + 3) },
		"far in an exit":  func(a *api.Trace) { a.Outs[end].Back = nums(least) },
	} {
		a := trace(nums(own+2), nums(own), con(4), con(5), calc(api.Add, own, own+1), must(own), must(own+2), equal(own, own))
		expect(t, "right at first", ir.Right(a), true)
		wrong(&a)
		expectAsItIs(t, what, a)
	}
}
