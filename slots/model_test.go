package slots_test

import (
	"slices"
	"strings"
	"testing"

	"holloway/api"
	"holloway/ir"
	"holloway/slots"
)

// aliveIn tells, by the words of P2001, how many values of a trace that is right are alive at once, at most.
func aliveIn(t api.Trace) int {
	most := 0
	for at := range t.Ins {
		alive := 0
		for p := range at + 1 {
			if ir.Gives(t.Ins[p].Op) && isAlive(t, p, at) {
				alive++
			}
		}
		most = max(most, alive)
	}
	return most
}

// isAlive tells whether a value is alive at a place, which isn't ahead of it.
func isAlive(t api.Trace, p, at int) bool {
	stands := func(x int) bool {
		return slices.Contains(t.Outs[x].Stack, p) || slices.Contains(t.Outs[x].Back, p)
	}
	names := func(i api.Ins) bool {
		return slices.Contains(ir.Uses(i), p) || slices.ContainsFunc(ir.Outs(i), stands)
	}
	return p == at || slices.ContainsFunc(t.Ins[at:], names) || stands(t.Last)
}

// drawer draws numbers, the same ones each time.
type drawer uint

func (d *drawer) below(n int) int {
	*d = *d*6364136223846793005 + 1442695040888963407
	return int(uint(*d)>>33) % n
}

// cell draws a cell: most often one that is an address, or is the same as another one.
func (d *drawer) cell() int {
	if d.below(12) == 0 {
		return edges()[d.below(len(edges()))]
	}
	return d.below(5)
}

func (d *drawer) cells(n int) []int {
	l := make([]int, n)
	for k := range l {
		l[k] = d.cell()
	}
	return l
}

// pick draws some of a list, at most so many.
func (d *drawer) pick(l []int, most int) []int {
	if len(l) == 0 {
		return nil
	}
	picked := make([]int, d.below(most+1))
	for k := range picked {
		picked[k] = l[d.below(len(l))]
	}
	return picked
}

// trace draws one that is right, in which much is named by nobody.
func (d *drawer) trace() api.Trace {
	t := api.Trace{Start: d.below(3), Slots: d.below(4), Backs: d.below(3), Grow: d.below(4), GrowBack: d.below(3)}
	var give []int
	for at := range d.below(30) {
		i := d.ins(t, give)
		if len(ir.Outs(i)) > 0 {
			i.X = d.exit(&t, give)
		}
		if i.Op == api.Put {
			i.A = d.exit(&t, give)
		}
		if ir.Gives(i.Op) {
			give = append(give, at)
		}
		t.Ins = append(t.Ins, i)
	}
	t.Last = d.exit(&t, give)
	d.spare(&t)
	return t
}

// exit draws an exit: one that is there already, or one behind others that nobody names.
func (d *drawer) exit(t *api.Trace, give []int) int {
	if len(t.Outs) > 0 && d.below(2) == 0 {
		x := d.below(len(t.Outs))
		// It may be one that nobody named, whatever stands in it: then it isn't taken.
		if t.Outs[x].Steps > 0 {
			return x
		}
	}
	d.spare(t)
	t.Outs = append(t.Outs, api.Out{
		Ip: 100 + len(t.Outs), Steps: d.below(120) + 1,
		Stack: d.pick(give, min(3, t.Slots+t.Grow)), Back: d.pick(give, min(2, t.Backs+t.GrowBack)),
	})
	return len(t.Outs) - 1
}

// spare draws some exits that nobody names, whose places may be anything: they have no Steps.
func (d *drawer) spare(t *api.Trace) {
	for d.below(4) == 0 {
		t.Outs = append(t.Outs, api.Out{Ip: 100 + len(t.Outs), Stack: d.cells(t.Slots + t.Grow), Back: d.cells(t.Backs)})
	}
}

// ins draws an instruction that may be there, but for its exits.
func (d *drawer) ins(t api.Trace, give []int) api.Ins {
	i := api.Ins{Op: d.op(), A: d.cell(), B: d.cell(), C: d.cell(), X: d.cell()}
	if i.Op == api.Slot && t.Slots == 0 || i.Op == api.Behind && t.Backs == 0 || len(give) == 0 && i.Op > api.Behind {
		i.Op = []int{api.Const, api.Const, api.Ask}[d.below(3)]
	}
	switch i.Op {
	case api.Slot:
		i.A = d.below(t.Slots)
	case api.Behind:
		i.A = d.below(t.Backs)
	case api.Calc:
		both := slices.Concat(twos, ones, nums(api.Div, api.Mod))
		i.A = both[d.below(len(both))]
	}
	if used := len(ir.Uses(i)); used > 0 {
		i.B = d.place(give)
		if used > 1 {
			i.C = d.place(give)
		}
	}
	return i
}

// place draws a place of a value: most often one of the last ones, so that registers are free again.
func (d *drawer) place(give []int) int {
	if d.below(5) > 0 {
		give = give[max(0, len(give)-3):]
	}
	return give[d.below(len(give))]
}

// op draws which instruction it is.
func (d *drawer) op() int {
	if d.below(2) == 0 {
		return 1 + d.below(12)
	}
	often := nums(api.Const, api.Slot, api.Slot, api.Behind, api.Calc, api.Calc, api.Calc, api.Must, api.Put)
	return often[d.below(len(often))]
}

// state draws a machine for a trace, which most often may be entered.
func (d *drawer) state(t api.Trace) api.State {
	s := api.State{
		Ip: t.Start, Handler: d.below(5), Code: -d.below(5),
		Stack: d.cells(t.Slots + d.below(3)), Back: d.cells(t.Backs + d.below(3)), Mem: d.cells(5 + d.below(3)),
		In: "\x00\x01\xfe4"[:d.below(5)], Out: strings.Repeat("x", d.below(3)),
	}
	s.Read = d.below(len(s.In) + 1)
	switch d.below(16) {
	case 0:
		s.Ip += d.below(3) - 1
	case 1:
		s.Status = d.below(3)
	case 2:
		s.Stack = d.cells(48 - d.below(5))
	case 3:
		s.Stack = s.Stack[:d.below(len(s.Stack)+1)]
	case 4:
		s.Out = strings.Repeat("x", 1990+d.below(11))
	case 5:
		s.Mem = s.Mem[:d.below(3)]
	}
	return s
}

// P2001: drawn traces, and code of them in few registers and in more, run of drawn machines, with cells that are watched and without.
func TestDrawn(t *testing.T) {
	seen := map[string]int{}
	for seed := range 30_000 {
		d := drawer(seed)
		a := d.trace()
		alive := aliveIn(a)
		c := expectCode(t, "drawn", a, alive)
		more, _ := slots.Make(a, alive+d.below(5))
		for range 6 {
			s, watched := d.state(a), d.pick(nums(0, 1, 2, 3, 4, -1), 2)
			note(seen, a, c, expectRun(t, "drawn", a, c, s, watched...))
			expectRun(t, "drawn, in more", a, more, s, watched...)
		}
		if t.Failed() {
			t.Fatalf("%+v, drawn by %d", a, seed)
		}
	}
	for _, what := range []string{"may not", "to the end", "aside", "to the end in few", "aside in few"} {
		if seen[what] < 1000 {
			t.Errorf("%s: %d times", what, seen[what])
		}
	}
}

// note notes how a run came out, and whether its registers were much fewer than its values.
func note(seen map[string]int, a api.Trace, c *slots.Code, exit int) {
	if exit < 0 {
		seen["may not"]++
		return
	}
	way := "aside"
	if exit == a.Last {
		way = "to the end"
	}
	seen[way]++
	if 2*c.Registers() < len(a.Ins) {
		seen[way+" in few"]++
	}
}

// P2001: nothing panics, and all ends: drawn traces of which some numbers are changed.
func TestDrawnWrong(t *testing.T) {
	wrong := 0
	for seed := range 20_000 {
		d := drawer(seed)
		a := d.trace()
		for range 1 + d.below(3) {
			d.change(&a)
		}
		if ir.Right(a) {
			expectCode(t, "changed", a, aliveIn(a), d.state(a))
			continue
		}
		wrong++
		expectNone(t, "wrong", a)
	}
	if wrong < 5000 {
		t.Errorf("%d are wrong", wrong)
	}
}

// change changes a number of a trace; it may still be right.
func (d *drawer) change(t *api.Trace) {
	n := append(edges(), 3, 48, 49)[d.below(len(edges())+3)]
	o := &t.Outs[d.below(len(t.Outs))]
	switch d.below(5) {
	case 0:
		*[]*int{&t.Start, &t.Slots, &t.Backs, &t.Grow, &t.GrowBack, &t.Last}[d.below(6)] = n
	case 1:
		o.Stack = append(o.Stack, n)
	case 2:
		o.Back = append(o.Back, n)
	default:
		if len(t.Ins) > 0 {
			i := &t.Ins[d.below(len(t.Ins))]
			*[]*int{&i.Op, &i.A, &i.B, &i.C, &i.X}[d.below(5)] = n
		}
	}
}
