package forward_test

import (
	"slices"
	"testing"

	"holloway/api"
	"holloway/forward"
	"holloway/ir"
)

// roomy makes a list that has room for more behind it, where what is written would be seen.
func roomy[T any](l []T, more ...T) []T {
	return append(slices.Clone(l), more...)[:len(l)]
}

// wipe clears a list, and all that there is room for behind it.
func wipe[T any](l []T) { clear(l[:cap(l)]) }

// spoil wipes all lists of a trace.
func spoil(t api.Trace) {
	for _, x := range t.Outs {
		wipe(x.Stack)
		wipe(x.Back)
	}
	wipe(t.Ins)
	wipe(t.Outs)
	wipe(t.Cells)
}

// P1801: an answer is new: nothing that is done to it is seen in what was handed in, nor in another answer.
func TestShares(t *testing.T) {
	for _, more := range [][]api.Ins{nil, {load(0), load(0), calc(api.Add, own, own+1)}, {must(0), put(0, 1), load(0), must(0)}, {{Op: 99}}} {
		a := trace(nums(0, 1), nums(2), more...)
		was := whole(a)
		b, c, again := forward.Do(a), forward.Do(a), forward.Do(a)
		spoil(b)
		expect(t, "what was handed in", ir.Same(a, was), true)
		expect(t, "another answer", ir.Same(c, again), true)
		spoil(a)
		expect(t, "an answer", ir.Same(c, again), true)
	}
}

// P1801: what was handed in stays as it is, also behind its lists; so does what it shares with itself.
func TestStays(t *testing.T) {
	one := nums(own, own+2, 0, 55, 56, 57)
	a := trace(one[:3], one[:2], load(1), load(1), calc(api.Add, own, own+1), must(1), must(1))
	a.Outs[aside].Stack = one[:0]
	a.Outs[hit] = api.Out{Ip: hitIp, Stack: one[2:3]}
	a.Ins, a.Cells, a.Outs = roomy(a.Ins, con(77), con(78)), roomy(a.Cells, 77), roomy(a.Outs, api.Out{Ip: 77})
	ins, cells, outs := slices.Clone(a.Ins[:len(a.Ins)+2]), slices.Clone(a.Cells[:len(a.Cells)+1]), a.Outs[:len(a.Outs)+1]
	b := expectDo(t, "roomy", a, states()...)
	expect(t, "behind Ins", slices.Equal(a.Ins[:len(a.Ins)+2], ins), true)
	expect(t, "behind Cells", slices.Equal(a.Cells[:len(a.Cells)+1], cells), true)
	expect(t, "behind Outs", outs[len(a.Outs)].Ip, 77)
	expect(t, "the list", slices.Equal(one, nums(own, own+2, 0, 55, 56, 57)), true)
	// One list was the stack of an exit and the return stack of another one: in the answer each has its own.
	expect(t, "the end's Stack", slices.Equal(b.Outs[end].Stack, nums(own, own+1, 0)), true)
	expect(t, "the end's Back", slices.Equal(b.Outs[end].Back, nums(own, own+1)), true)
	b.Outs[end].Stack[0], b.Outs[end].Stack[1] = 0, 0
	expect(t, "its own", slices.Equal(b.Outs[end].Back, nums(own, own+1)), true)
}
