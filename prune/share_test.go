package prune_test

import (
	"slices"
	"testing"

	"holloway/api"
	"holloway/ir"
	"holloway/prune"
)

// roomy makes a list that has room for more behind it, where what is written would be seen.
func roomy[T any](l []T, more ...T) []T {
	return append(slices.Clone(l), more...)[:len(l)]
}

// wipe clears a list, and all that there is room for behind it.
func wipe[T any](l []T) { clear(l[:cap(l)]) }

// spoil wipes all lists of a trace.
func spoil(t api.Trace) {
	for _, x := range t.Outs {
		wipe(x.Stack)
		wipe(x.Back)
	}
	wipe(t.Ins)
	wipe(t.Outs)
	wipe(t.Cells)
}

// P1901: an answer is new: nothing that is done to it is seen in what was handed in, nor in another answer.
func TestShares(t *testing.T) {
	for _, more := range [][]api.Ins{nil, {con(4), must(0), con(5), calc(api.Add, own, own)}, {by(spare, must(0)), put(0, 1)}, {{Op: 99}}} {
		a := trace(nums(0, 1), more...)
		was := whole(a)
		b, c, again := prune.Do(a), prune.Do(a), prune.Do(a)
		spoil(b)
		expect(t, "what was handed in", ir.Same(a, was), true)
		expect(t, "another answer", ir.Same(c, again), true)
		spoil(a)
		expect(t, "an answer", ir.Same(c, again), true)
	}
}

// P1901: what was handed in stays as it is, also behind its lists; so does what it shares with itself.
func TestStays(t *testing.T) {
	one := nums(own+1, own+2, 0, 55, 56, 57)
	a := trace(nil, con(4), con(5), calc(api.Add, own+1, 0), must(own+1))
	a.Outs[end].Stack, a.Outs[end].Back = one[:3], one[:2]
	a.Outs[aside].Stack = one[:0]
	a.Outs[hit].Stack = one[2:3]
	a.Ins, a.Cells, a.Outs = roomy(a.Ins, con(77), con(78)), roomy(a.Cells, 77), roomy(a.Outs, api.Out{Ip: 77})
	ins, cells, outs := slices.Clone(a.Ins[:len(a.Ins)+2]), slices.Clone(a.Cells[:len(a.Cells)+1]), a.Outs[:len(a.Outs)+1]
	b := expectDo(t, "roomy", a, states()...)
	expect(t, "behind Ins", slices.Equal(a.Ins[:len(a.Ins)+2], ins), true)
	expect(t, "behind Cells", slices.Equal(a.Cells[:len(a.Cells)+1], cells), true)
	expect(t, "behind Outs", outs[len(a.Outs)].Ip, 77)
	expect(t, "the list", slices.Equal(one, nums(own+1, own+2, 0, 55, 56, 57)), true)
	// One list was the stack of an exit and the return stack of another one: in the answer each has its own.
	last := b.Outs[b.Last]
	expect(t, "the end's Stack", slices.Equal(last.Stack, nums(1, 2, 0)), true)
	expect(t, "the end's Back", slices.Equal(last.Back, nums(1, 2)), true)
	last.Stack[0], last.Stack[1] = 0, 0
	expect(t, "its own", slices.Equal(last.Back, nums(1, 2)), true)
}
