package forward_test

import (
	"slices"
	"strings"
	"testing"

	"holloway/api"
	"holloway/ir"
)

// drawer draws numbers, the same ones each time.
type drawer uint

func (d *drawer) below(n int) int {
	*d = *d*6364136223846793005 + 1442695040888963407
	return int(uint(*d)>>33) % n
}

// cell draws a cell: most often one that is an address, or is the same as another one.
func (d *drawer) cell() int {
	if d.below(12) == 0 {
		return edges()[d.below(len(edges()))]
	}
	return d.below(5)
}

func (d *drawer) cells(n int) []int {
	l := make([]int, n)
	for k := range l {
		l[k] = d.cell()
	}
	return l
}

// pick draws some of a list, at most so many.
func (d *drawer) pick(l []int, most int) []int {
	if len(l) == 0 {
		return nil
	}
	picked := make([]int, d.below(most+1))
	for k := range picked {
		picked[k] = l[d.below(len(l))]
	}
	return picked
}

// trace draws one that is right, that asks much of few cells, and whose exits are each of another Ip.
func (d *drawer) trace() api.Trace {
	t := api.Trace{Start: d.below(3), Slots: d.below(4), Backs: d.below(3), Grow: d.below(4), GrowBack: d.below(3)}
	var give []int
	exit := func() int {
		t.Outs = append(t.Outs, api.Out{
			Ip: 100 + len(t.Outs), Steps: d.below(120) + 1,
			Stack: d.pick(give, t.Slots+t.Grow), Back: d.pick(give, t.Backs+t.GrowBack),
		})
		return len(t.Outs) - 1
	}
	for at := range d.below(20) {
		i := d.ins(t, give)
		if len(ir.Outs(i)) > 0 {
			i.X = exit()
		}
		if i.Op == api.Put {
			i.A = exit()
		}
		if ir.Gives(i.Op) {
			give = append(give, at)
		}
		t.Ins = append(t.Ins, i)
	}
	t.Last = exit()
	if d.below(4) == 0 {
		// Nobody names this one: whatever stands in it.
		t.Outs = append(t.Outs, api.Out{Ip: 99, Stack: d.cells(t.Slots + t.Grow), Back: d.cells(t.Backs)})
	}
	return t
}

// ins draws an instruction that may be there, but for its exits.
func (d *drawer) ins(t api.Trace, give []int) api.Ins {
	i := api.Ins{Op: d.op(), A: d.cell(), B: d.cell(), C: d.cell(), X: d.cell()}
	if i.Op == api.Slot && t.Slots == 0 || i.Op == api.Behind && t.Backs == 0 || len(give) == 0 && i.Op > api.Behind {
		i.Op = []int{api.Const, api.Const, api.Ask}[d.below(3)]
	}
	switch i.Op {
	case api.Slot:
		i.A = d.below(t.Slots)
	case api.Behind:
		i.A = d.below(t.Backs)
	case api.Calc:
		i.A = []int{api.Add, api.Sub, api.Mul, api.Div, api.Mod, api.Max, api.Equal, api.Negate, api.IsZero}[d.below(9)]
	}
	// Most of them ask what was asked.
	if again := d.again(t, i.Op); again != nil {
		i.B, i.C = again.B, again.C
		if i.Op == api.Same && d.below(2) == 0 {
			i.B, i.C = i.C, i.B
		}
		return i
	}
	if used := len(ir.Uses(i)); used > 0 {
		i.B = d.place(give)
		if used > 1 {
			i.C = d.place(give)
		}
	}
	return i
}

// op draws which instruction it is.
func (d *drawer) op() int {
	if d.below(3) == 0 {
		return 1 + d.below(12)
	}
	often := nums(api.Const, api.Slot, api.Load, api.Load, api.Load, api.Put, api.Must, api.MustNot, api.Same)
	return often[d.below(len(often))]
}

// again draws an instruction that asked the same, or put it; nil, if there is none.
func (d *drawer) again(t api.Trace, op int) *api.Ins {
	for k := range t.Ins {
		i := &t.Ins[len(t.Ins)-1-k]
		if (i.Op == op || op == api.Load && i.Op == api.Put) && i.Op >= api.Load && i.Op < api.Say && d.below(3) > 0 {
			return i
		}
	}
	return nil
}

// place draws a place that has a value: one of the first two rather than others, as these are asked often.
func (d *drawer) place(give []int) int {
	if d.below(2) == 0 {
		give = give[:min(2, len(give))]
	}
	return give[d.below(len(give))]
}

// state draws a machine for a trace, which most often may be entered.
func (d *drawer) state(t api.Trace) api.State {
	s := api.State{
		Ip: t.Start, Handler: d.below(5), Code: -d.below(5),
		Stack: d.cells(t.Slots + d.below(3)), Back: d.cells(t.Backs + d.below(3)), Mem: d.cells(5 + d.below(3)),
		In: "\x00\x01\xfe4"[:d.below(5)], Out: strings.Repeat("x", d.below(3)),
	}
	s.Read = d.below(len(s.In) + 1)
	switch d.below(12) {
	case 0:
		s.Ip += d.below(3) - 1
	case 1:
		s.Status = d.below(3)
	case 2:
		s.Stack = d.cells(48 - d.below(5))
	case 3:
		s.Stack = s.Stack[:d.below(len(s.Stack)+1)]
	case 4:
		s.Out = strings.Repeat("x", 1990+d.below(11))
	case 5:
		s.Mem = s.Mem[:d.below(3)]
	}
	return s
}

// P1801, P1802: drawn traces, of drawn machines, with cells that are watched and without.
func TestDrawn(t *testing.T) {
	seen := map[string]int{}
	for seed := range 40_000 {
		d := drawer(seed)
		a := d.trace()
		b := expectDo(t, "drawn", a)
		for range 6 {
			note(seen, a, b, expectRun(t, "drawn", a, b, d.state(a), d.pick(nums(0, 1, 2, 3, 4, -1), 2)...))
		}
		if t.Failed() {
			t.Fatalf("%+v: %+v, drawn by %d", a, b, seed)
		}
	}
	for _, what := range []string{"may not", "to the end", "aside", "to the end of less", "aside of less", "to the end with fewer loads", "to the end with fewer guards"} {
		if seen[what] < 1000 {
			t.Errorf("%s: %d times", what, seen[what])
		}
	}
}

// note notes how a run came out, of a trace of which there is less.
func note(seen map[string]int, a, b api.Trace, exit int) {
	if exit < 0 {
		seen["may not"]++
		return
	}
	way := "aside"
	if exit == a.Last {
		way = "to the end"
	}
	seen[way]++
	if len(b.Ins) < len(a.Ins) {
		seen[way+" of less"]++
	}
	if count(b, api.Load) < count(a, api.Load) {
		seen[way+" with fewer loads"]++
	}
	if count(b, api.Must, api.MustNot, api.Same) < count(a, api.Must, api.MustNot, api.Same) {
		seen[way+" with fewer guards"]++
	}
}

func count(t api.Trace, ops ...int) int {
	many := 0
	for _, i := range t.Ins {
		if slices.Contains(ops, i.Op) {
			many++
		}
	}
	return many
}

// P1801, P1802: nothing panics, and all ends: drawn traces of which some numbers are changed.
func TestDrawnWrong(t *testing.T) {
	wrong := 0
	for seed := range 40_000 {
		d := drawer(seed)
		a := d.trace()
		for range 1 + d.below(3) {
			d.change(&a)
		}
		if ir.Right(a) {
			expectDo(t, "changed", a, d.state(a))
			continue
		}
		wrong++
		expectAsItIs(t, "wrong", a)
	}
	if wrong < 10_000 {
		t.Errorf("%d are wrong", wrong)
	}
}

// change changes a number of a trace; it may still be right.
func (d *drawer) change(t *api.Trace) {
	n := append(edges(), 3, 48, 49)[d.below(len(edges())+3)]
	o := &t.Outs[d.below(len(t.Outs))]
	switch d.below(5) {
	case 0:
		*[]*int{&t.Start, &t.Slots, &t.Backs, &t.Grow, &t.GrowBack, &t.Last}[d.below(6)] = n
	case 1:
		o.Stack = append(o.Stack, n)
	case 2:
		o.Back = append(o.Back, n)
	default:
		if len(t.Ins) > 0 {
			i := &t.Ins[d.below(len(t.Ins))]
			*[]*int{&i.Op, &i.A, &i.B, &i.C, &i.X}[d.below(5)] = n
		}
	}
}
