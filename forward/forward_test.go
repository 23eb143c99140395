package forward_test

import (
	"math"
	"slices"
	"testing"

	"holloway/api"
	"holloway/eval"
	"holloway/forward"
	"holloway/ir"
)

const (
	least    = math.MinInt
	greatest = math.MaxInt
)

// These are the exits of the traces that are made here, and where the machine is then.
const (
	aside   = 0
	end     = 1
	hit     = 2
	asideIp = 70
	endIp   = 80
	hitIp   = 90
)

const (
	start = 7 // where they begin
	own   = 3 // the place of the first instruction that is more
)

// nums makes a list.
func nums(l ...int) []int { return l }

// all makes a list of instructions.
func all(l ...api.Ins) []api.Ins { return l }

// trace makes one that takes two cells of the stack (places 0 and 1) and one of the return stack (place 2): at its end these places lie there instead.
func trace(stack, back []int, more ...api.Ins) api.Trace {
	return api.Trace{
		Start: start, Slots: 2, Backs: 1, Grow: 6, GrowBack: 4,
		Ins: append([]api.Ins{{Op: api.Slot, A: 0}, {Op: api.Slot, A: 1}, {Op: api.Behind, A: 0}}, more...),
		Outs: []api.Out{
			aside: {Ip: asideIp, Steps: 0, Stack: nums(1, 0), Back: nums(2)},
			end:   {Ip: endIp, Steps: 9, Stack: stack, Back: back},
			hit:   {Ip: hitIp, Steps: 5, Stack: nums(0), Back: nums(2, 1)},
		},
		Last: end, Cells: nums(7, 8, 11),
	}
}

func con(v int) api.Ins { return api.Ins{Op: api.Const, A: v} }

func calc(op, b, c int) api.Ins { return api.Ins{Op: api.Calc, A: op, B: b, C: c, X: aside} }

func load(b int) api.Ins    { return api.Ins{Op: api.Load, B: b, X: aside} }
func put(b, c int) api.Ins  { return api.Ins{Op: api.Put, A: hit, B: b, C: c, X: aside} }
func must(b int) api.Ins    { return api.Ins{Op: api.Must, B: b, X: aside} }
func mustNot(b int) api.Ins { return api.Ins{Op: api.MustNot, B: b, X: aside} }
func equal(b, c int) api.Ins {
	return api.Ins{Op: api.Same, B: b, C: c, X: aside}
}

// otherwise makes an instruction whose numbers that nobody asks are others, and that is left by another exit.
func otherwise(i api.Ins) api.Ins {
	i.X = hit
	if i.Op != api.Put {
		i.A += 77
	}
	if len(ir.Uses(i)) < 2 {
		i.C -= 5
	}
	return i
}

// edges are numbers that would be others in fewer bits, or without a sign.
func edges() []int {
	return nums(least, least+1, -1<<32, -256, -7, -2, -1, 0, 1, 2, 3, 63, 64, 255, 256, 1<<31, 1<<32, 1<<32+1, greatest-1, greatest)
}

// states are machines in which trace may be entered, and one in which it may not be.
func states() []api.State {
	var l []api.State
	for _, stack := range [][]int{nums(9, 1, 2), nums(0, 0), nums(-1, 3, 3), nums(4, 0), nums(4, 5, 0), nums(2, least), nums(2, 4), nums(1, 0)} {
		l = append(l, api.State{Ip: start, Handler: 2, Stack: stack, Back: nums(31, 4), Mem: nums(3, 0, 2, 1, 104), Out: "<", In: "xyz", Read: 1, Code: -44})
	}
	return append(l, api.State{Ip: start, Stack: nums(1), Back: nums(4)})
}

func expect[T comparable](t *testing.T, what string, got, want T) {
	t.Helper()
	if got != want {
		t.Errorf("%s: %v, not %v", what, got, want)
	}
}

// alike tells whether two machines are; lists that are nil and empty are one.
func alike(a, b api.State) bool {
	return a.Ip == b.Ip && a.Handler == b.Handler && a.Out == b.Out && a.In == b.In && a.Read == b.Read &&
		a.Status == b.Status && a.Code == b.Code &&
		slices.Equal(a.Stack, b.Stack) && slices.Equal(a.Back, b.Back) && slices.Equal(a.Mem, b.Mem)
}

// whole makes a copy of a trace.
func whole(t api.Trace) api.Trace {
	t.Ins, t.Cells, t.Outs = slices.Clone(t.Ins), slices.Clone(t.Cells), slices.Clone(t.Outs)
	for k, x := range t.Outs {
		t.Outs[k].Stack, t.Outs[k].Back = slices.Clone(x.Stack), slices.Clone(x.Back)
	}
	return t
}

// leftOf counts, by the words of P1801, what may not be left in a trace that is right.
func leftOf(t api.Trace) int {
	left := 0
	for at, i := range t.Ins {
		if mayNot(i, t.Ins[:at]) {
			left++
		}
	}
	return left
}

// mayNot tells whether an instruction may not be left behind these.
func mayNot(i api.Ins, ahead []api.Ins) bool {
	switch i.Op {
	case api.Load:
		for _, k := range slices.Backward(ahead) {
			if k.Op == api.Load && k.B == i.B {
				return true
			}
			if k.Op == api.Put {
				return k.B == i.B
			}
		}
	case api.Must, api.MustNot:
		return slices.ContainsFunc(ahead, func(k api.Ins) bool { return k.Op == i.Op && k.B == i.B })
	case api.Same:
		return slices.ContainsFunc(ahead, func(k api.Ins) bool {
			return k.Op == i.Op && (k.B == i.B && k.C == i.C || k.B == i.C && k.C == i.B)
		})
	}
	return false
}

// expectRun runs two traces of a machine, and holds one against the other; it tells by which exit the first one was left.
func expectRun(t *testing.T, what string, a, b api.Trace, s api.State, watched ...int) int {
	t.Helper()
	want, x := eval.Run(a, s, watched...)
	got, y := eval.Run(b, s, watched...)
	if !alike(got, want) || x.Steps != y.Steps || x.Hit != y.Hit || (x.Exit < 0) != (y.Exit < 0) || x.Exit >= 0 && a.Outs[x.Exit].Ip != b.Outs[y.Exit].Ip {
		t.Errorf("%s: of %+v with %v: %+v %+v, not %+v %+v", what, s, watched, got, y, want, x)
	}
	return x.Exit
}

// expectDo holds all that is promised of Do and Left of a trace that is right, and tells what Do made of it.
func expectDo(t *testing.T, what string, a api.Trace, of ...api.State) api.Trace {
	t.Helper()
	if !ir.Right(a) {
		t.Fatalf("%s: %+v isn't right", what, a)
	}
	was := whole(a)
	b := forward.Do(a)
	expect(t, what+": Left of it", forward.Left(a), leftOf(a))
	expect(t, what+": stays", ir.Same(a, was), true)
	if !ir.Right(b) {
		t.Fatalf("%s: Do of %+v isn't right: %+v", what, a, b)
	}
	expect(t, what+": Start", b.Start, a.Start)
	expect(t, what+": Slots", b.Slots, a.Slots)
	expect(t, what+": Backs", b.Backs, a.Backs)
	expect(t, what+": Grow", b.Grow, a.Grow)
	expect(t, what+": GrowBack", b.GrowBack, a.GrowBack)
	expect(t, what+": Cells", slices.Equal(b.Cells, a.Cells), true)
	expect(t, what+": no more Ins", len(b.Ins) <= len(a.Ins), true)
	expect(t, what+": no more Outs", len(b.Outs) <= len(a.Outs), true)
	expect(t, what+": nothing is left", leftOf(b), 0)
	expect(t, what+": Left of the answer", forward.Left(b), 0)
	expect(t, what+": again", len(forward.Do(b).Ins), len(b.Ins))
	for _, s := range of {
		expectRun(t, what, a, b, s)
		expectRun(t, what, a, b, s, 0, 2, 3)
	}
	return b
}

// expectIns holds what Do makes of the instructions that are more, where the end's stack is these places, against what is wanted.
func expectIns(t *testing.T, what string, stack []int, more, want []api.Ins, wantStack []int) {
	t.Helper()
	b := expectDo(t, what, trace(stack, nums(2), more...), states()...)
	if !slices.Equal(b.Ins[own:], want) {
		t.Errorf("%s: %v, not %v", what, b.Ins[own:], want)
	}
	if got := b.Outs[b.Last].Stack; !slices.Equal(got, wantStack) {
		t.Errorf("%s: the end's stack is %v, not %v", what, got, wantStack)
	}
}

// expectStays holds it that there is nothing to do.
func expectStays(t *testing.T, what string, stack []int, more ...api.Ins) {
	t.Helper()
	expectIns(t, what, stack, more, more, stack)
}

// P1801: the chapter's example.
func TestExample(t *testing.T) {
	a := api.Trace{Start: 5, Slots: 1, Grow: 1, Ins: all(api.Ins{Op: api.Slot}, load(0), load(0)), Outs: []api.Out{{Ip: 6, Stack: nums(0)}, {Ip: 5, Steps: 1, Stack: nums(1, 2)}}, Last: 1}
	expect(t, "Left", forward.Left(a), 1)
	b := expectDo(t, "example", a, api.State{Ip: 5, Stack: nums(1), Mem: nums(4, 6)}, api.State{Ip: 5, Stack: nums(1)})
	expect(t, "one of them", slices.Equal(b.Ins, a.Ins[:2]), true)
	expect(t, "its value, twice", slices.Equal(b.Outs[1].Stack, nums(1, 1)), true)
}

// P1801: of two Loads of one place, between which there is no Put, the first one is left.
func TestLoads(t *testing.T) {
	expectIns(t, "two", nums(own, own+1), all(load(0), otherwise(load(0))), all(load(0)), nums(own, own))
	expectIns(t, "the first is the other one", nums(own, own+1), all(otherwise(load(0)), load(0)), all(otherwise(load(0))), nums(own, own))
	expectIns(t, "three", nums(own+2, own, own+1), all(load(1), load(1), load(1)), all(load(1)), nums(own, own, own))
	expectIns(t, "of two places", nums(own, own+1, own+2, own+3), all(load(0), load(1), load(0), load(1)), all(load(0), load(1)), nums(own, own+1, own, own+1))
	expectIns(t, "of what was loaded twice", nums(own+2, own+3), all(load(0), load(0), load(own), load(own+1)), all(load(0), load(own)), nums(own+1, own+1))
	between := all(con(4), must(1), equal(0, 1), mustNot(0), api.Ins{Op: api.Ask}, api.Ins{Op: api.Say, B: 0, X: aside}, api.Ins{Op: api.Tell, B: 1, X: hit}, calc(api.Div, 1, 0), api.Ins{Op: api.Slot}, api.Ins{Op: api.Behind})
	for _, i := range between {
		expectIns(t, "with "+ir.Text(i), nums(own, own+2), all(load(1), i, load(1)), all(load(1), i), nums(own, own))
	}
	expectStays(t, "of another place", nums(own, own+1), load(0), load(1))
	expectStays(t, "of another place with the same number", nums(own+2, own+3), con(2), con(2), load(own), load(own+1))
}

// P1801: behind a Put nothing is known of what was loaded ahead of it, whatever place it names.
func TestPutHides(t *testing.T) {
	expectStays(t, "a Put of another place", nums(own, own+2), load(0), put(1, 2), load(0))
	expectStays(t, "the value's place", nums(own, own+2), load(0), put(1, 0), load(0))
	expectStays(t, "a Put of the value", nums(own, own+2), load(0), put(1, own), load(0))
	expectStays(t, "of a Put, too", nums(own+2), put(0, 2), put(1, 2), load(0))
	expectStays(t, "two Puts", nums(own+3), put(0, 1), put(1, 0), put(2, 0), load(0))
	expectStays(t, "a constant's", nums(own+2, own+4), con(3), con(4), load(own), put(own+1, own), load(own))
	expectIns(t, "and then they are known again", nums(own, own+2, own+3), all(load(0), put(1, 2), load(0), load(0)), all(load(0), put(1, 2), load(0)), nums(own, own+2, own+2))
	expectIns(t, "both of them", nums(own, own+1, own+3, own+4, own+5, own+6),
		all(load(0), load(1), put(2, 1), load(1), load(0), load(1), load(0)),
		all(load(0), load(1), put(2, 1), load(1), load(0)), nums(own, own+1, own+3, own+4, own+3, own+4))
}

// P1801: a Load behind a Put of the same place, with no other Put between, is what was put.
func TestPut(t *testing.T) {
	expectIns(t, "what was put", nums(own+1), all(put(0, 2), otherwise(load(0))), all(put(0, 2)), nums(2))
	expectIns(t, "its own address", nums(own+1), all(put(0, 0), load(0)), all(put(0, 0)), nums(0))
	expectIns(t, "twice", nums(own+1, own+2), all(put(0, 2), load(0), load(0)), all(put(0, 2)), nums(2, 2))
	expectIns(t, "loaded ahead of it, too", nums(own, own+2), all(load(0), put(0, 1), load(0)), all(load(0), put(0, 1)), nums(own, 1))
	expectIns(t, "the later one", nums(own+2, 0), all(put(0, 2), put(0, 1), load(0)), all(put(0, 2), put(0, 1)), nums(1, 0))
	expectIns(t, "the later one of others", nums(own+2), all(put(0, 2), put(1, 0), load(1)), all(put(0, 2), put(1, 0)), nums(0))
	expectIns(t, "a sum", nums(own+2, own+3), all(calc(api.Add, 1, 2), put(1, own), load(1), calc(api.Sub, own+2, 0)), all(calc(api.Add, 1, 2), put(1, own), calc(api.Sub, own, 0)), nums(own, own+2))
	expectIns(t, "with a Load between", nums(own+1, own+2), all(put(0, 2), load(1), load(0)), all(put(0, 2), load(1)), nums(own+1, 2))
	expectIns(t, "what was loaded", nums(own+2), all(load(1), put(0, own), load(0)), all(load(1), put(0, own)), nums(own))
	expectIns(t, "of what was put", nums(own+2), all(put(0, 1), load(0), load(own+1), load(1)), all(put(0, 1), load(1)), nums(own+1))
	expectIns(t, "back again", nums(own+4), all(load(0), put(0, own), load(0), put(1, own+2), load(1)), all(load(0), put(0, own), put(1, own)), nums(own))
	expectIns(t, "of a place that is another one now", nums(own+4), all(load(0), load(0), put(own+1, 1), load(own), load(own+1)), all(load(0), put(own, 1)), nums(1))
	expectStays(t, "of another place", nums(own+1), put(0, 2), load(1))
	expectStays(t, "of the place that was put", nums(own+1), put(0, 1), load(1))
}

// P1801: no Put goes, though it puts what is there, or what is put again.
func TestPutsStay(t *testing.T) {
	expectStays(t, "twice the same", nums(0), put(0, 1), put(0, 1))
	expectStays(t, "what is there", nums(own), load(0), put(0, own))
}

// P1801: where an address is none, the trace is left there, ahead of all that is known of its cell.
func TestNoAddress(t *testing.T) {
	for _, more := range [][]api.Ins{{load(0), load(0)}, {put(0, 1), load(0)}, {load(1), load(1), put(0, own+1), load(0)}} {
		a := trace(nums(len(more)+own-1), nil, more...)
		b := expectDo(t, "no address", a)
		for _, address := range edges() {
			s := states()[0]
			s.Stack = nums(3, 1, address)
			way := expectRun(t, "no address", a, b, s)
			expect(t, "to the end", way == end, address >= 0 && address < len(s.Mem))
		}
	}
}

// P1801: a Must, MustNot or Same is asked once, by the first one.
func TestGuards(t *testing.T) {
	for _, i := range all(must(0), mustNot(0), equal(0, 1), equal(1, 0), equal(0, 0)) {
		what := ir.Text(i)
		expectIns(t, what, nums(0), all(i, i), all(i), nums(0))
		expectIns(t, what, nums(0), all(i, otherwise(i)), all(i), nums(0))
		expectIns(t, what, nums(0), all(otherwise(i), i, i), all(otherwise(i)), nums(0))
		for _, between := range all(put(0, 1), put(1, 0), load(0), must(1), mustNot(1), equal(1, 2), con(0), api.Ins{Op: api.Ask}) {
			expectIns(t, what+" with "+ir.Text(between), nums(0), all(i, between, i), all(i, between), nums(0))
		}
	}
	expectIns(t, "in the other order", nums(1), all(equal(0, 1), equal(1, 0)), all(equal(0, 1)), nums(1))
	expectIns(t, "in the other order", nums(1), all(equal(2, 1), equal(1, 2), equal(2, 1)), all(equal(2, 1)), nums(1))
	expectIns(t, "of what is one place now", nums(own+1), all(load(0), load(0), must(own), must(own+1), equal(own, 1), equal(1, own+1)), all(load(0), must(own), equal(own, 1)), nums(own))
	expectIns(t, "of what was put", nums(own+1), all(put(0, 1), load(0), mustNot(own+1), mustNot(1)), all(put(0, 1), mustNot(1)), nums(1))
}

// P1801: another guard, or one of another place, is another question.
func TestGuardsStay(t *testing.T) {
	expectStays(t, "Must, MustNot", nums(0), must(0), mustNot(0))
	expectStays(t, "MustNot, Must", nums(0), mustNot(0), must(0))
	expectStays(t, "another place", nums(0), must(0), must(1), must(2))
	expectStays(t, "another place", nums(0), mustNot(0), mustNot(1), mustNot(2))
	expectStays(t, "one place of both", nums(0), equal(0, 1), equal(0, 2), equal(2, 1), equal(0, 0), equal(1, 1))
	expectStays(t, "one with itself", nums(0), equal(1, 1), equal(0, 1))
	expectStays(t, "a Same, and guards of its places", nums(0), equal(0, 1), must(0), must(1))
	expectStays(t, "a Load, and guards of its place", nums(own), load(0), must(0), mustNot(own), equal(0, own))
	expectStays(t, "another place with the same number", nums(0), con(1), con(1), must(own), must(own+1))
}

// P1801: what tells, asks or reckons is not what is known, however often it is there.
func TestOthersStay(t *testing.T) {
	for _, i := range all(con(4), calc(api.Add, 0, 1), calc(api.Div, 0, 1), api.Ins{Op: api.Ask}, api.Ins{Op: api.Slot, A: 1}, api.Ins{Op: api.Behind}) {
		expectStays(t, ir.Text(i), nums(own, own+1), i, i)
	}
	for _, i := range all(put(0, 1), api.Ins{Op: api.Say, B: 0, X: aside}, api.Ins{Op: api.Tell, B: 0, X: hit}) {
		expectStays(t, ir.Text(i), nums(0), i, i)
	}
}

// P1801: of one place each question is another one.
func TestKinds(t *testing.T) {
	kinds := all(load(0), must(0), mustNot(0), equal(0, 0), api.Ins{Op: api.Say, B: 0, X: aside}, api.Ins{Op: api.Tell, B: 0, X: aside}, calc(api.Negate, 0, 0), put(0, 0), con(0), api.Ins{Op: api.Slot}, api.Ins{Op: api.Behind}, api.Ins{Op: api.Ask})
	for _, a := range kinds {
		for _, b := range kinds {
			if a.Op != b.Op && !(a.Op == api.Put && b.Op == api.Load) {
				expectStays(t, ir.Text(a)+", "+ir.Text(b), nums(0), a, b)
			}
		}
	}
}

// P1802: Left counts what is there, as it stands: not what comes of it; each instruction once.
func TestLeft(t *testing.T) {
	for _, c := range []struct {
		more []api.Ins
		left int
	}{
		{nil, 0},
		{all(load(0), load(0)), 1},
		{all(load(0), load(0), load(0), load(0)), 3},
		{all(load(0), load(0), load(own), load(own+1)), 1},
		{all(load(0), put(0, 1), load(0), load(0)), 2},
		{all(put(0, 1), load(0), put(1, 0), load(0), load(1)), 2},
		{all(put(0, 1), put(1, 0), load(0)), 0},
		{all(must(0), must(0), mustNot(0), must(0), mustNot(0)), 3},
		{all(equal(0, 1), equal(1, 0), equal(0, 1), equal(0, 0)), 2},
		{all(load(0), load(0), must(own), must(own+1)), 1},
		{all(put(0, 1), put(0, 1), calc(api.Add, 0, 1), calc(api.Add, 0, 1)), 0},
	} {
		a := trace(nums(0), nil, c.more...)
		expect(t, "Left", forward.Left(a), c.left)
		expectDo(t, "Left", a, states()...)
	}
}

// naming are instructions of all kinds that name two places.
func naming(p, q int) []api.Ins {
	return all(
		calc(api.Add, 0, p), calc(api.Sub, p, 0), calc(api.Div, 1, p), calc(api.Mod, p, q), calc(api.Invert, p, 77),
		load(p), api.Ins{Op: api.Load, B: q, X: hit}, put(p, q), api.Ins{Op: api.Put, A: aside, B: q, C: 0, X: hit},
		must(p), mustNot(q), equal(p, q), equal(q, 0),
		api.Ins{Op: api.Say, B: p, X: aside}, api.Ins{Op: api.Tell, B: q, X: hit}, api.Ins{Op: api.Ask, A: 4, B: 5, C: 6, X: 7},
	)
}

// P1801: where something has gone all that is behind it names the places where things are now, and exits do.
func TestMoves(t *testing.T) {
	moved := naming(own, own+3)
	for k, i := range naming(own+2, own+5) {
		expectIns(t, ir.Text(i), nums(own+2, own, own+5, 0),
			all(load(1), mustNot(own), load(1), equal(2, 0), mustNot(own+2), calc(api.Add, 1, own+2), equal(0, 2), i, api.Ins{Op: api.Tell, B: own + 5, X: aside}),
			all(load(1), mustNot(own), equal(2, 0), calc(api.Add, 1, own), moved[k], api.Ins{Op: api.Tell, B: own + 3, X: aside}),
			nums(own, own, own+3, 0))
	}
}

// P1801: the places in exits move, in both lists of the last one, and of those that instructions name.
func TestMovesExits(t *testing.T) {
	a := trace(nums(own+3, own, own+4), nums(own+4, 2, own+3),
		load(1), must(1), must(1), load(1), calc(api.Add, own+3, 0), api.Ins{Op: api.Put, A: hit, B: 1, C: own + 4, X: 3}, load(1), mustNot(own+6))
	a.Ins[own+7].X = 4
	a.Outs[hit] = api.Out{Ip: hitIp, Steps: 3, Stack: nums(own+4, own+3), Back: nums(own)}
	a.Outs = append(a.Outs, api.Out{Ip: 91, Steps: 2, Stack: nums(own+3, 1), Back: nums(own+4, own+3)}, api.Out{Ip: 92, Stack: nums(own + 6), Back: nums(own + 6)})
	b := expectDo(t, "exits", a, states()...)
	want := []api.Out{
		a.Outs[aside],
		{Ip: endIp, Steps: 9, Stack: nums(own, own, own+2), Back: nums(own+2, 2, own)},
		{Ip: hitIp, Steps: 3, Stack: nums(own+2, own), Back: nums(own)},
		{Ip: 91, Steps: 2, Stack: nums(own, 1), Back: nums(own+2, own)},
		{Ip: 92, Stack: nums(own + 2), Back: nums(own + 2)},
	}
	expect(t, "exits", ir.Same(b, api.Trace{
		Start: start, Slots: 2, Backs: 1, Grow: 6, GrowBack: 4, Last: end, Cells: a.Cells, Outs: want,
		Ins: append(slices.Clone(a.Ins[:own]), load(1), must(1), calc(api.Add, own, 0), api.Ins{Op: api.Put, A: hit, B: 1, C: own + 2, X: 3}, api.Ins{Op: api.MustNot, B: own + 2, X: 4}),
	}), true)
	exits := map[int]int{}
	for _, s := range states() {
		for _, watched := range [][]int{nil, nums(0, 1, 2, 3, 4)} {
			exits[expectRun(t, "exits", a, b, s, watched...)]++
		}
	}
	for _, x := range nums(-1, aside, end, hit, 4) {
		expect(t, "an exit is taken", exits[x] > 0, true)
	}
}

// P1801: an exit that nobody names, or nobody any more, may be or go; what stands in it is whatever it is.
func TestUnnamed(t *testing.T) {
	for _, p := range nums(0, own, own+1, own+2, own+3, 999, 1000, -1, least, greatest) {
		a := trace(nums(own+2), nil, load(1), must(0), load(1), must(0))
		a.Outs[hit].Stack, a.Outs[hit].Back = nums(p, 0, p), nums(p)
		expectDo(t, "unnamed", a, states()...)
	}
	a := trace(nums(own+1), nil, load(1), otherwise(load(1)), must(0), otherwise(must(0)))
	expect(t, "how many", len(expectDo(t, "nobody any more", a, states()...).Ins), own+2)
}

// P1801: as many instructions and exits as there may be.
func TestMany(t *testing.T) {
	a := api.Trace{Slots: 1, Ins: make([]api.Ins, 1000), Outs: make([]api.Out, 300), Last: 299}
	s := api.State{Stack: nums(1), Mem: nums(1, 1)}
	of := func(what string, left int, make func(at int) api.Ins, last int) {
		t.Helper()
		a.Ins[0] = api.Ins{Op: api.Slot}
		for at := 1; at < 1000; at++ {
			a.Ins[at] = make(at)
			a.Ins[at].X = at % 299
		}
		a.Outs[299] = api.Out{Steps: 1, Stack: nums(last)}
		expect(t, what+": Left", forward.Left(a), left)
		expectDo(t, what, a, s)
	}
	of("one Load", 998, func(int) api.Ins { return load(0) }, 999)
	of("Loads of Loads", 0, func(at int) api.Ins { return load(at - 1) }, 999)
	of("guards", 998, func(int) api.Ins { return must(0) }, 0)
	of("Puts", 499, func(at int) api.Ins {
		if at%2 == 1 {
			return put(0, at-1)
		}
		return load(0)
	}, 998)
	expect(t, "one Load of each Put", len(forward.Do(a).Ins), 501)
	a.Ins = append(a.Ins, con(1))
	expectAsItIs(t, "one too many", a)
}

// P1801: the least traces.
func TestLeast(t *testing.T) {
	b := expectDo(t, "no instructions", api.Trace{Outs: []api.Out{{Steps: 1}}}, api.State{}, api.State{Ip: 1})
	expect(t, "no instructions", len(b.Ins), 0)
	a := api.Trace{Ins: all(con(0), load(0)), Outs: []api.Out{{Steps: 1}}}
	b = expectDo(t, "a Load that nobody needs", a, api.State{}, api.State{Mem: nums(1)})
	expect(t, "it may leave the trace, and is left", len(b.Ins), 2)
}

// expectAsItIs holds it that a trace that isn't right is left as it is, and nothing is left of it.
func expectAsItIs(t *testing.T, what string, a api.Trace) {
	t.Helper()
	expect(t, what+": right", ir.Right(a), false)
	was := whole(a)
	b := forward.Do(a)
	expect(t, what+": as it is", ir.Same(b, was), true)
	expect(t, what+": Left", forward.Left(a), 0)
	expect(t, what+": stays", ir.Same(a, was), true)
	spoil(b)
	expect(t, what+": its own", ir.Same(a, was), true)
}

// P1801, P1802: traces that are not right.
func TestNotRight(t *testing.T) {
	expectAsItIs(t, "zero", api.Trace{})
	for what, wrong := range map[string]func(a *api.Trace){
		"Start":           func(a *api.Trace) { a.Start = -1 },
		"Slots":           func(a *api.Trace) { a.Slots = 1 },
		"Grow":            func(a *api.Trace) { a.Grow = 49 },
		"Last":            func(a *api.Trace) { a.Last = 3 },
		"Last below":      func(a *api.Trace) { a.Last = -1 },
		"no Outs":         func(a *api.Trace) { a.Outs = nil },
		"Steps of Last":   func(a *api.Trace) { a.Outs[end].Steps = 0 },
		"Cells":           func(a *api.Trace) { a.Cells = nums(5, 5) },
		"no instruction":  func(a *api.Trace) { a.Ins[own].Op = 0 },
		"no operation":    func(a *api.Trace) { a.Ins[own+2].A = api.Dup },
		"a later place":   func(a *api.Trace) { a.Ins[own+2].C = own + 2 },
		"no place":        func(a *api.Trace) { a.Ins[own+1].B = -1 },
		"far":             func(a *api.Trace) { a.Ins[own+3].B = greatest },
		"no value":        func(a *api.Trace) { a.Ins[own+4].B = own + 3 },
		"no exit":         func(a *api.Trace) { a.Ins[own+3].X = 3 },
		"an exit's place": func(a *api.Trace) { a.Outs[end].Stack = nums(own + 3) },
		"far in an exit":  func(a *api.Trace) { a.Outs[end].Back = nums(least) },
	} {
		a := trace(nums(own+2), nums(own), load(0), load(0), calc(api.Add, own, own+1), must(own), must(own), equal(1, 0), equal(0, 1), put(1, 0), load(1))
		expect(t, "right at first", ir.Right(a), true)
		expect(t, "much is left at first", forward.Left(a), 4)
		wrong(&a)
		expectAsItIs(t, what, a)
	}
}
