package prune_test

import (
	"slices"
	"strings"
	"testing"

	"holloway/api"
	"holloway/ir"
	"holloway/prune"
)

// model takes away one thing at a time that nobody names, until there is none.
func model(t api.Trace) api.Trace {
	t = whole(t)
	for {
		places, exits := leftOf(t)
		switch {
		case len(exits) > 0:
			t = withoutExit(t, exits[0])
		case len(places) > 0:
			t = withoutIns(t, places[len(places)/2])
		default:
			return t
		}
	}
}

// withoutExit is a trace without an exit that nobody names.
func withoutExit(t api.Trace, x int) api.Trace {
	t.Outs = slices.Delete(t.Outs, x, x+1)
	down(&t.Last, x)
	for at := range t.Ins {
		i := &t.Ins[at]
		if len(ir.Outs(*i)) > 0 {
			down(&i.X, x)
		}
		if i.Op == api.Put {
			down(&i.A, x)
		}
	}
	return t
}

// withoutIns is a trace without an instruction that nobody names.
func withoutIns(t api.Trace, p int) api.Trace {
	t.Ins = slices.Delete(t.Ins, p, p+1)
	for at := range t.Ins {
		i := &t.Ins[at]
		used := len(ir.Uses(*i))
		if used > 0 {
			down(&i.B, p)
		}
		if used > 1 {
			down(&i.C, p)
		}
	}
	for _, o := range t.Outs {
		for _, l := range [][]int{o.Stack, o.Back} {
			for k := range l {
				down(&l[k], p)
			}
		}
	}
	return t
}

// down sets a number to where it is when one that isn't it has gone.
func down(n *int, gone int) {
	if *n > gone {
		*n--
	}
}

// drawer draws numbers, the same ones each time.
type drawer uint

func (d *drawer) below(n int) int {
	*d = *d*6364136223846793005 + 1442695040888963407
	return int(uint(*d)>>33) % n
}

// cell draws a cell: most often one that is an address, or is the same as another one.
func (d *drawer) cell() int {
	if d.below(12) == 0 {
		return edges()[d.below(len(edges()))]
	}
	return d.below(5)
}

func (d *drawer) cells(n int) []int {
	l := make([]int, n)
	for k := range l {
		l[k] = d.cell()
	}
	return l
}

// pick draws some of a list, at most so many.
func (d *drawer) pick(l []int, most int) []int {
	if len(l) == 0 {
		return nil
	}
	picked := make([]int, d.below(most+1))
	for k := range picked {
		picked[k] = l[d.below(len(l))]
	}
	return picked
}

// trace draws one that is right, in which much is named by nobody, and whose exits are each of another Ip.
func (d *drawer) trace() api.Trace {
	t := api.Trace{Start: d.below(3), Slots: d.below(4), Backs: d.below(3), Grow: d.below(4), GrowBack: d.below(3)}
	var give []int
	for at := range d.below(24) {
		i := d.ins(t, give)
		if len(ir.Outs(i)) > 0 {
			i.X = d.exit(&t, give)
		}
		if i.Op == api.Put {
			i.A = d.exit(&t, give)
		}
		if ir.Gives(i.Op) {
			give = append(give, at)
		}
		t.Ins = append(t.Ins, i)
	}
	t.Last = d.exit(&t, give)
	d.spare(&t)
	return t
}

// exit draws an exit: one that is there already, or one behind others that nobody names.
func (d *drawer) exit(t *api.Trace, give []int) int {
	if len(t.Outs) > 0 && d.below(3) == 0 {
		x := d.below(len(t.Outs))
		// It may be one that nobody named, whatever stands in it: then it isn't taken.
		if t.Outs[x].Steps > 0 {
			return x
		}
	}
	d.spare(t)
	t.Outs = append(t.Outs, api.Out{
		Ip: 100 + len(t.Outs), Steps: d.below(120) + 1,
		Stack: d.pick(give, min(2, t.Slots+t.Grow)), Back: d.pick(give, min(2, t.Backs+t.GrowBack)),
	})
	return len(t.Outs) - 1
}

// spare draws some exits that nobody names, whose places may be anything: they have no Steps.
func (d *drawer) spare(t *api.Trace) {
	for d.below(4) == 0 {
		t.Outs = append(t.Outs, api.Out{Ip: 100 + len(t.Outs), Stack: d.cells(t.Slots + t.Grow), Back: d.cells(t.Backs)})
	}
}

// ins draws an instruction that may be there, but for its exits.
func (d *drawer) ins(t api.Trace, give []int) api.Ins {
	i := api.Ins{Op: d.op(), A: d.cell(), B: d.cell(), C: d.cell(), X: d.cell()}
	if i.Op == api.Slot && t.Slots == 0 || i.Op == api.Behind && t.Backs == 0 || len(give) == 0 && i.Op > api.Behind {
		i.Op = []int{api.Const, api.Const, api.Ask}[d.below(3)]
	}
	switch i.Op {
	case api.Slot:
		i.A = d.below(t.Slots)
	case api.Behind:
		i.A = d.below(t.Backs)
	case api.Calc:
		both := slices.Concat(twos, ones, nums(api.Div, api.Mod))
		i.A = both[d.below(len(both))]
	}
	if used := len(ir.Uses(i)); used > 0 {
		i.B = give[d.below(len(give))]
		if used > 1 {
			i.C = give[d.below(len(give))]
		}
	}
	return i
}

// op draws which instruction it is.
func (d *drawer) op() int {
	if d.below(3) == 0 {
		return 1 + d.below(12)
	}
	often := nums(api.Const, api.Slot, api.Slot, api.Behind, api.Calc, api.Calc, api.Calc, api.Calc)
	return often[d.below(len(often))]
}

// state draws a machine for a trace, which most often may be entered.
func (d *drawer) state(t api.Trace) api.State {
	s := api.State{
		Ip: t.Start, Handler: d.below(5), Code: -d.below(5),
		Stack: d.cells(t.Slots + d.below(3)), Back: d.cells(t.Backs + d.below(3)), Mem: d.cells(5 + d.below(3)),
		In: "\x00\x01\xfe4"[:d.below(5)], Out: strings.Repeat("x", d.below(3)),
	}
	s.Read = d.below(len(s.In) + 1)
	switch d.below(12) {
	case 0:
		s.Ip += d.below(3) - 1
	case 1:
		s.Status = d.below(3)
	case 2:
		s.Stack = d.cells(48 - d.below(5))
	case 3:
		s.Stack = s.Stack[:d.below(len(s.Stack)+1)]
	case 4:
		s.Out = strings.Repeat("x", 1990+d.below(11))
	case 5:
		s.Mem = s.Mem[:d.below(3)]
	}
	return s
}

// P1901, P1902: drawn traces, held against the model, and run of drawn machines, with cells that are watched and without.
func TestDrawn(t *testing.T) {
	seen := map[string]int{}
	for seed := range 30_000 {
		d := drawer(seed)
		a := d.trace()
		b := expectDo(t, "drawn", a)
		expect(t, "as one thing after the other", ir.Same(b, model(a)), true)
		for range 6 {
			note(seen, a, b, expectRun(t, "drawn", a, b, d.state(a), d.pick(nums(0, 1, 2, 3, 4, -1), 2)...))
		}
		if t.Failed() {
			t.Fatalf("%+v: %+v, drawn by %d", a, b, seed)
		}
	}
	for _, what := range []string{"may not", "to the end", "aside", "to the end of less", "aside of less", "to the end of more than was left", "to the end with fewer exits", "aside with fewer exits"} {
		if seen[what] < 1000 {
			t.Errorf("%s: %d times", what, seen[what])
		}
	}
}

// note notes how a run came out, of a trace of which there is less.
func note(seen map[string]int, a, b api.Trace, exit int) {
	if exit < 0 {
		seen["may not"]++
		return
	}
	way := "aside"
	if exit == a.Last {
		way = "to the end"
	}
	seen[way]++
	if len(b.Ins) < len(a.Ins) {
		seen[way+" of less"]++
	}
	if places, _ := leftOf(a); len(a.Ins)-len(b.Ins) > len(places) {
		seen[way+" of more than was left"]++
	}
	if len(b.Outs) < len(a.Outs) {
		seen[way+" with fewer exits"]++
	}
}

// P1901, P1902: nothing panics, and all ends: drawn traces of which some numbers are changed.
func TestDrawnWrong(t *testing.T) {
	wrong := 0
	for seed := range 40_000 {
		d := drawer(seed)
		a := d.trace()
		for range 1 + d.below(3) {
			d.change(&a)
		}
		if ir.Right(a) {
			b := expectDo(t, "changed", a, d.state(a))
			expect(t, "as one thing after the other", ir.Same(b, model(a)), true)
			continue
		}
		wrong++
		expectAsItIs(t, "wrong", a)
	}
	if wrong < 10_000 {
		t.Errorf("%d are wrong", wrong)
	}
}

// change changes a number of a trace; it may still be right.
func (d *drawer) change(t *api.Trace) {
	n := append(edges(), 3, 48, 49)[d.below(len(edges())+3)]
	o := &t.Outs[d.below(len(t.Outs))]
	switch d.below(5) {
	case 0:
		*[]*int{&t.Start, &t.Slots, &t.Backs, &t.Grow, &t.GrowBack, &t.Last}[d.below(6)] = n
	case 1:
		o.Stack = append(o.Stack, n)
	case 2:
		o.Back = append(o.Back, n)
	default:
		if len(t.Ins) > 0 {
			i := &t.Ins[d.below(len(t.Ins))]
			*[]*int{&i.Op, &i.A, &i.B, &i.C, &i.X}[d.below(5)] = n
		}
	}
}

// P1902: Do of its own answer is that answer.
func TestAgain(t *testing.T) {
	for seed := range 2000 {
		d := drawer(seed)
		a := prune.Do(d.trace())
		if !ir.Same(prune.Do(a), a) {
			t.Fatalf("Do of its own answer %+v", a)
		}
	}
}
