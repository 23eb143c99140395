package slots_test

import (
	"slices"
	"testing"

	"holloway/api"
	"holloway/eval"
	"holloway/ir"
	"holloway/slots"
)

// roomy makes a list that has room for more behind it, where what is written would be seen.
func roomy[T any](l []T, more ...T) []T {
	return append(slices.Clone(l), more...)[:len(l)]
}

// wipe clears a list, and all that there is room for behind it.
func wipe[T any](l []T) { clear(l[:cap(l)]) }

// spoil wipes all lists of a trace.
func spoil(t api.Trace) {
	for _, x := range t.Outs {
		wipe(x.Stack)
		wipe(x.Back)
	}
	wipe(t.Ins)
	wipe(t.Outs)
	wipe(t.Cells)
}

// shared is a trace that shares a list with itself.
func shared() api.Trace {
	a := trace(nil, con(4), calc(api.Add, own, 0), calc(api.Mul, own+1, 1), put(own, own+2), must(own+1))
	one := nums(own+2, own+1, own, 0, 55, 56)
	a.Outs[end].Stack, a.Outs[end].Back = one[:3], one[:2]
	a.Outs[hit].Stack, a.Outs[aside].Stack = one[1:3], one[:0]
	return a
}

// P2001: code is its own: nothing that is done to the trace is seen in it.
func TestShares(t *testing.T) {
	a := shared()
	was := whole(a)
	c := expectCode(t, "shared", a, 4, states()...)
	again, _ := slots.Make(a, 9)
	expect(t, "the trace", ir.Same(a, was), true)
	spoil(a)
	for _, s := range states() {
		expectRun(t, "behind a spoiled trace", was, c, s)
		expectRun(t, "another one", was, again, s, 4)
	}
	expect(t, "Len", c.Len(), len(was.Ins))
}

// P2001: the trace stays as it is, also behind its lists.
func TestStays(t *testing.T) {
	a := shared()
	one := a.Outs[end].Stack[:6]
	a.Ins, a.Cells, a.Outs = roomy(a.Ins, con(77), con(78)), roomy(a.Cells, 77), roomy(a.Outs, api.Out{Ip: 77})
	ins, cells, outs := slices.Clone(a.Ins[:len(a.Ins)+2]), slices.Clone(a.Cells[:len(a.Cells)+1]), a.Outs[:len(a.Outs)+1]
	expectCode(t, "roomy", a, 4, states()...)
	expect(t, "behind Ins", slices.Equal(a.Ins[:len(a.Ins)+2], ins), true)
	expect(t, "behind Cells", slices.Equal(a.Cells[:len(a.Cells)+1], cells), true)
	expect(t, "behind Outs", outs[len(a.Outs)].Ip, 77)
	expect(t, "the list", slices.Equal(one, nums(own+2, own+1, own, 0, 55, 56)), true)
}

// P2001: a run leaves the machine as it is, and shares nothing with it, nor with another run.
func TestRuns(t *testing.T) {
	was := shared()
	c, _ := slots.Make(was, 5)
	var none *slots.Code
	for _, ip := range nums(start, start+1) {
		for _, of := range []*slots.Code{c, none} {
			fresh := func() api.State {
				return api.State{Ip: ip, Stack: roomy(nums(9, 1, 2), 71, 72, 73), Back: roomy(nums(31, 4), 71, 72), Mem: roomy(nums(3, 0, 2, 1, 104), 71)}
			}
			s, old, watched := fresh(), fresh(), nums(9, 3)
			got, _ := of.Run(s, watched...)
			again, done := of.Run(s, watched...)
			third, _ := of.Run(s, watched...)
			expect(t, "s", alike(s, old), true)
			expect(t, "behind its Stack", slices.Equal(s.Stack[:6], old.Stack[:6]), true)
			expect(t, "behind its Back", slices.Equal(s.Back[:4], old.Back[:4]), true)
			expect(t, "behind its Mem", slices.Equal(s.Mem[:6], old.Mem[:6]), true)
			expect(t, "watched", slices.Equal(watched, nums(9, 3)), true)
			for _, l := range [][]int{got.Stack, got.Back, got.Mem} {
				wipe(l)
			}
			expect(t, "s behind a wiped answer", alike(s, old), true)
			expect(t, "another answer", alike(again, third), true)
			for _, l := range [][]int{s.Stack, s.Back, s.Mem} {
				wipe(l)
			}
			expect(t, "an answer", alike(again, third), true)
			expect(t, "refused", done.Exit < 0, ip != start || of == nil)
		}
	}
}

// P2001: registers hold nothing from one run to the next one.
func TestTwice(t *testing.T) {
	a := trace(nums(own+3), load(0), calc(api.Add, own, 1), put(0, own+1), ask())
	a.Outs[end].Back = nums(2)
	c := expectCode(t, "twice", a, 5, states()...)
	one := api.State{Ip: start, Stack: nums(5, 3), Back: nums(8, 6), Mem: nums(1, 2, 3, 4), In: "xy"}
	two := api.State{Ip: start, Stack: nums(2, 0), Back: nums(9, 7), Mem: nums(1)}
	for range 2 {
		expectRun(t, "one", a, c, one)
		expectRun(t, "two", a, c, two)
		expectRun(t, "aside", a, c, api.State{Ip: start, Stack: nums(2, 9), Back: nums(9, 7), Mem: nums(1)})
	}
	s, done := c.Run(one)
	expect(t, "goes on", alike(s, api.State{Ip: 81, Stack: nums('x'), Back: nums(6), Mem: nums(1, 2, 3, 9), In: "xy", Read: 1}), true)
	expect(t, "done", done, eval.Done{Exit: end, Steps: 1})
}
