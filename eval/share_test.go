package eval_test

import (
	"slices"
	"testing"

	"holloway/api"
	"holloway/eval"
	"holloway/ir"
)

// roomy makes a list that has room for more behind it, where what is written would be seen.
func roomy(l ...int) []int {
	whole := append(slices.Clone(l), 71, 72, 73, 74, 75, 76, 77, 78)
	return whole[:len(l)]
}

// behind tells what lies behind a roomy list.
func behind(l []int) []int { return l[len(l) : len(l)+8] }

// roomyState makes a machine of roomy lists.
func roomyState() api.State {
	s := state(4, 2, 3)
	s.Stack, s.Back, s.Mem = roomy(s.Stack...), roomy(s.Back...), roomy(s.Mem...)
	return s
}

// P1502: s stays as it is, also behind its lists; so do the trace, and the cells that are watched.
func TestStays(t *testing.T) {
	x := trace(nums(0, 1, 2, 3, 4), nums(4, 3, 2, 1), ins(api.Put, hit, 0, 1, aside), ins(api.Put, hit, 1, 0, aside))
	was := trace(nums(0, 1, 2, 3, 4), nums(4, 3, 2, 1), ins(api.Put, hit, 0, 1, aside), ins(api.Put, hit, 1, 0, aside))
	for _, watched := range [][]int{nil, nums(2, 9), nums(3), nums(9, 5, 7)} {
		for _, ip := range nums(start, start+1) {
			s, old := roomyState(), roomyState()
			s.Ip, old.Ip = ip, ip
			asked := slices.Clone(watched)
			eval.May(x, s)
			eval.Run(x, s, asked...)
			expect(t, "s", alike(s, old), true)
			expect(t, "behind its Stack", slices.Equal(behind(s.Stack), behind(old.Stack)), true)
			expect(t, "behind its Back", slices.Equal(behind(s.Back), behind(old.Back)), true)
			expect(t, "behind its Mem", slices.Equal(behind(s.Mem), behind(old.Mem)), true)
			expect(t, "watched", slices.Equal(asked, watched), true)
			expect(t, "the trace", ir.Same(x, was), true)
		}
	}
}

// P1502: an answer is new: it shares nothing with s, whether the trace is run or refused, and nothing with another answer.
func TestShares(t *testing.T) {
	x := trace(nums(2, 1, 0), nums(4, 3))
	for _, ip := range nums(start, start+1) {
		s, old := state(1, 2, 3), state(1, 2, 3)
		s.Ip, old.Ip = ip, ip
		got, _ := eval.Run(x, s)
		again, _ := eval.Run(x, s)
		was, _ := eval.Run(x, s)
		for _, l := range [][]int{got.Stack, got.Back, got.Mem} {
			for k := range l {
				l[k] = 999
			}
		}
		expect(t, "s", alike(s, old), true)
		expect(t, "another answer", alike(again, was), true)
		for _, l := range [][]int{s.Stack, s.Back, s.Mem} {
			for k := range l {
				l[k] = 888
			}
		}
		expect(t, "an answer", alike(again, was), true)
		again.Stack = append(again.Stack, 1)
		again.Back = append(again.Back, 2)
		expect(t, "an answer's lists", alike(again, was), false)
		expect(t, "the memory", slices.Equal(again.Mem, was.Mem), true)
	}
}

// P1502: what was stored by one run is not seen by the next one of the same machine; that goes on from what was told.
func TestTwice(t *testing.T) {
	x := trace(nums(2, 1, 0), nums(4, 3),
		ins(api.Load, 0, 0, 0, aside), ins(api.Calc, api.Add, own, 1, 0), ins(api.Put, hit, 0, own+1, aside), ins(api.Ask, 0, 0, 0, 0), ins(api.Say, 0, own+3, 0, aside))
	x.Outs[end].Ip = start
	s := state(1, 2, 3)
	one, _ := eval.Run(x, s)
	two, _ := eval.Run(x, s)
	expect(t, "again", alike(one, two), true)
	want := putAt(s, 3, 105)
	want.Out, want.Read = "<y", 2
	expectRun(t, "once", x, s, want, eval.Done{Exit: end, Steps: endSteps})
	want = putAt(s, 3, 107)
	want.Out, want.Read = "<yz", 3
	expectRun(t, "then from there", x, one, want, eval.Done{Exit: end, Steps: endSteps})
}

// Nothing panics, and all ends: empty ones.
func TestNothing(t *testing.T) {
	expect(t, "May", eval.May(api.Trace{}, api.State{}), true)
	eval.Run(api.Trace{}, api.State{})
	expectRun(t, "the least trace", api.Trace{Outs: []api.Out{{Steps: 1}}}, api.State{}, api.State{}, eval.Done{Steps: 1})
}

// Nothing panics, and all ends: traces that may not be, in one number, of a machine in which they would be entered.
func TestWrongTraces(t *testing.T) {
	whole := trace(nums(0, 1, own), nums(2),
		ins(api.Load, 0, 0, 0, aside), ins(api.Put, hit, 0, 1, aside), ins(api.Calc, api.Div, 0, 1, aside),
		ins(api.Must, 0, 0, 0, aside), ins(api.MustNot, 0, 2, 0, aside), ins(api.Same, 0, 0, 0, aside),
		ins(api.Say, 0, 0, 0, aside), ins(api.Tell, 0, 0, 0, aside), ins(api.Ask, 0, 0, 0, 0))
	numbers := append(edges(), 3, 4, 5, 6, 7, 13, 14, 48, 49, 300, 1000, 3000)
	s, old := state(0, 2, 3), state(0, 2, 3)
	for _, n := range numbers {
		for _, watched := range [][]int{nil, nums(3)} {
			for at := range whole.Ins {
				for field := range 5 {
					x := whole
					x.Ins = slices.Clone(whole.Ins)
					i := &x.Ins[at]
					*[]*int{&i.Op, &i.A, &i.B, &i.C, &i.X}[field] = n
					eval.Run(x, s, watched...)
				}
			}
			for field := range 6 {
				x := whole
				*[]*int{&x.Start, &x.Slots, &x.Backs, &x.Grow, &x.GrowBack, &x.Last}[field] = n
				s.Ip = x.Start
				eval.Run(x, s, watched...)
			}
			s.Ip = start
			x := trace(nums(n, n, n), nums(n, n))
			eval.Run(x, s, watched...)
			x.Outs[end].Ip, x.Outs[end].Steps = n, n
			eval.Run(x, s, watched...)
		}
	}
	expect(t, "s", alike(s, old), true)
}

// Nothing panics, and all ends: traces without exits, and exits that grow more than they may.
func TestWrongExits(t *testing.T) {
	s := state(0, 2, 3)
	for _, x := range []api.Trace{
		{Start: start},
		{Start: start, Last: -1, Outs: make([]api.Out, 1)},
		{Start: start, Last: 1, Outs: make([]api.Out, 1)},
		{Start: start, Ins: []api.Ins{{Op: api.Const}, {Op: api.Must, X: 5}}, Outs: make([]api.Out, 1)},
		{Start: start, Ins: []api.Ins{{Op: api.Const}, {Op: api.Put, A: -1, X: 5}}, Outs: make([]api.Out, 1)},
		{Start: start, Outs: []api.Out{{Stack: make([]int, 5000), Back: make([]int, 5000)}}},
	} {
		eval.May(x, s)
		eval.Run(x, s, 0)
	}
}

// Nothing panics, and all ends: machines that may not be.
func TestWrongStates(t *testing.T) {
	x := trace(nums(0, 1, own), nums(own+1), ins(api.Ask, 0, 0, 0, 0), ins(api.Ask, 0, 0, 0, 0), ins(api.Say, 0, 0, 0, aside), ins(api.Load, 0, 0, 0, aside))
	for _, n := range append(edges(), 3, 4, 5, 1000, 3000) {
		s := state(1, 2, 3)
		s.Read = n
		eval.Run(x, s)
		s.Status = n
		eval.Run(x, s)
	}
	for _, n := range nums(0, 47, 48, 49, 3000, 100_000) {
		for k := range 4 {
			s := state(1, 2, 3)
			switch long := make([]int, n); k {
			case 0:
				s.Stack = long
			case 1:
				s.Back = long
			case 2:
				s.Mem = long
			case 3:
				s.Out = string(make([]byte, n))
			}
			eval.Run(x, s, 3)
		}
	}
}
