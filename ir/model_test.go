package ir_test

import (
	"slices"
	"testing"

	"holloway/api"
	"holloway/ir"
)

// flaw is why a trace may not be; "", if it may.
type flaw string

// flawOf tells the first thing that is asked of a trace and does not hold.
func flawOf(t api.Trace) flaw {
	switch {
	case len(t.Ins) > 1000 || len(t.Outs) > 300:
		return "size"
	case t.Start < 0 || t.Start > 2999 || min(t.Slots, t.Backs, t.Grow, t.GrowBack) < 0 || max(t.Slots, t.Backs, t.Grow, t.GrowBack) > 48:
		return "numbers"
	case t.Last < 0 || t.Last >= len(t.Outs) || t.Outs[t.Last].Steps == 0:
		return "last"
	case !given(t, append(slices.Clone(t.Outs[t.Last].Stack), t.Outs[t.Last].Back...), len(t.Ins)):
		return "places of the last"
	}
	for _, o := range t.Outs {
		if o.Steps < 0 || o.Steps > 120 || o.Ip < 0 || o.Ip > 2999 || len(o.Stack) > t.Slots+t.Grow || len(o.Back) > t.Backs+t.GrowBack {
			return "exit"
		}
	}
	for n, a := range t.Cells {
		if a < 0 || a > 2999 || n > 0 && t.Cells[n-1] >= a {
			return "cells"
		}
	}
	for at, i := range t.Ins {
		if f := flawAt(t, i, at); f != "" {
			return f
		}
	}
	return ""
}

// flawAt is that of one instruction.
func flawAt(t api.Trace, i api.Ins, at int) flaw {
	k := of(i)
	switch {
	case k.name == "":
		return "no instruction"
	case i.Op == api.Calc && !slices.Contains(twos, i.A) && !slices.Contains(ones, i.A):
		return "no operation"
	case i.Op == api.Slot && (i.A < 0 || i.A >= t.Slots), i.Op == api.Behind && (i.A < 0 || i.A >= t.Backs):
		return "no such cell"
	case !given(t, pick(i, k.places), at):
		return "places"
	}
	for _, x := range pick(i, k.outs) {
		if x < 0 || x >= len(t.Outs) {
			return "no such exit"
		}
		if !given(t, t.Outs[x].Stack, at) || !given(t, t.Outs[x].Back, at) {
			return "places of an exit"
		}
	}
	return ""
}

// given tells whether all these are places of what gives, ahead of one.
func given(t api.Trace, places []int, at int) bool {
	return !slices.ContainsFunc(places, func(p int) bool { return p < 0 || p >= at || !of(t.Ins[p]).gives })
}

// drawer draws numbers, the same ones each time.
type drawer uint

func (d *drawer) below(n int) int {
	*d = *d*6364136223846793005 + 1442695040888963407
	return int(uint(*d)>>33) % n
}

// odd draws a number that most often does not fit.
func (d *drawer) odd() int {
	return []int{-1, d.below(60) - 5, 48, 49, 120, 121, 2999, 3000, least, greatest, 1 << 32}[d.below(11)]
}

// places draws places that give, as many as there may be at most.
func (d *drawer) places(give []int, most int) []int {
	if len(give) == 0 {
		return nil
	}
	l := make([]int, d.below(most+1))
	for n := range l {
		l[n] = give[d.below(len(give))]
	}
	return l
}

// trace draws one that is right.
func (d *drawer) trace() api.Trace {
	t := api.Trace{Start: d.below(3000), Slots: d.below(4), Backs: d.below(3), Grow: d.below(4), GrowBack: d.below(3)}
	var give []int
	exit := func() int {
		if n := len(t.Outs); n > 0 && d.below(3) == 0 {
			return d.below(n)
		}
		t.Outs = append(t.Outs, api.Out{
			Ip: d.below(3000), Steps: d.below(120) + 1,
			Stack: d.places(give, t.Slots+t.Grow), Back: d.places(give, t.Backs+t.GrowBack),
		})
		return len(t.Outs) - 1
	}
	for at := range d.below(20) {
		i := d.ins(t, give)
		if of(i).outs != "" {
			i.X = exit()
		}
		if i.Op == api.Put {
			i.A = exit()
		}
		if ir.Gives(i.Op) {
			give = append(give, at)
		}
		t.Ins = append(t.Ins, i)
	}
	t.Last = exit()
	for a := d.below(300); a < 3000; a += 1 + d.below(1500) {
		t.Cells = append(t.Cells, a)
	}
	return t
}

// ins draws an instruction that may be there, but for its exits.
func (d *drawer) ins(t api.Trace, give []int) api.Ins {
	i := api.Ins{Op: 1 + d.below(12), A: d.odd(), B: d.odd(), C: d.odd(), X: d.odd()}
	if i.Op == api.Slot && t.Slots == 0 || i.Op == api.Behind && t.Backs == 0 || len(give) == 0 && i.Op > api.Behind {
		i.Op = []int{api.Const, api.Ask}[d.below(2)]
	}
	switch i.Op {
	case api.Slot:
		i.A = d.below(t.Slots)
	case api.Behind:
		i.A = d.below(t.Backs)
	case api.Calc:
		both := append(slices.Clone(twos), ones...)
		i.A = both[d.below(len(both))]
	}
	if places := of(i).places; places != "" {
		i.B = give[d.below(len(give))]
		if places == "BC" {
			i.C = give[d.below(len(give))]
		}
	}
	return i
}

// spoil changes one thing in a trace; it may still be right.
func (d *drawer) spoil(t *api.Trace) {
	if len(t.Ins) > 0 && d.below(2) == 0 {
		i := &t.Ins[d.below(len(t.Ins))]
		*[]*int{&i.Op, &i.A, &i.B, &i.C, &i.X}[d.below(5)] = []int{d.odd(), d.below(16), d.below(16)}[d.below(3)]
		return
	}
	o := &t.Outs[d.below(len(t.Outs))]
	switch d.below(6) {
	case 0:
		*[]*int{&o.Ip, &o.Steps}[d.below(2)] = []int{0, d.odd()}[d.below(2)]
	case 1:
		o.Stack = append(o.Stack, d.below(20)-1)
	case 2:
		o.Back = append(o.Back, d.below(20)-1)
	case 3:
		t.Cells = append(t.Cells, d.odd())
	default:
		*[]*int{&t.Start, &t.Slots, &t.Backs, &t.Grow, &t.GrowBack, &t.Last}[d.below(6)] = []int{d.odd(), d.below(4)}[d.below(2)]
	}
}

// P1402, P1403: drawn traces, and what becomes of them when one thing in them is changed, against the model.
func TestDrawnTraces(t *testing.T) {
	seen := map[flaw]int{}
	for seed := range 40_000 {
		d, again := drawer(seed), drawer(seed)
		x, was := d.trace(), again.trace()
		expect(t, "as it was drawn", ir.Right(x), true)
		expect(t, "Same", ir.Same(x, was), true)
		d.spoil(&x)
		why := flawOf(x)
		seen[why]++
		if got := ir.Right(x); got != (why == "") {
			t.Fatalf("Right of %v: %t, and it has %q", x, got, why)
		}
		if why != "" && ir.Same(x, was) {
			t.Fatalf("%v is like %v", x, was)
		}
	}
	for _, why := range []flaw{
		"", "numbers", "last", "places of the last", "exit", "cells",
		"no instruction", "no operation", "no such cell", "places", "no such exit", "places of an exit",
	} {
		if seen[why] < 100 {
			t.Errorf("%q: %d times", why, seen[why])
		}
	}
}
