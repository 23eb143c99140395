package ir_test

import (
	"testing"

	"holloway/api"
	"holloway/ir"
)

// expectSame holds it whether a trace that was changed a bit is like the one that it was; also the other way round.
func expectSame(t *testing.T, what string, want bool, change func(x *api.Trace)) {
	t.Helper()
	x := some()
	change(&x)
	if got := ir.Same(x, some()); got != want {
		t.Errorf("%s: %t, not %t", what, got, want)
	}
	if got := ir.Same(some(), x); got != want {
		t.Errorf("%s, the other way round: %t, not %t", what, got, want)
	}
	if !ir.Same(x, x) {
		t.Errorf("%s: it isn't like itself", what)
	}
}

// P1403: alike in each number.
func TestSameNumbers(t *testing.T) {
	expectSame(t, "as it is", true, func(x *api.Trace) {})
	for _, by := range nums(1, -1, 1<<32, least) {
		expectSame(t, "Start", false, func(x *api.Trace) { x.Start += by })
		expectSame(t, "Slots", false, func(x *api.Trace) { x.Slots += by })
		expectSame(t, "Backs", false, func(x *api.Trace) { x.Backs += by })
		expectSame(t, "Grow", false, func(x *api.Trace) { x.Grow += by })
		expectSame(t, "GrowBack", false, func(x *api.Trace) { x.GrowBack += by })
		expectSame(t, "Last", false, func(x *api.Trace) { x.Last += by })
		for at := range some().Ins {
			expectSame(t, "Op", false, func(x *api.Trace) { x.Ins[at].Op += by })
			expectSame(t, "A", false, func(x *api.Trace) { x.Ins[at].A += by })
			expectSame(t, "B", false, func(x *api.Trace) { x.Ins[at].B += by })
			expectSame(t, "C", false, func(x *api.Trace) { x.Ins[at].C += by })
			expectSame(t, "X", false, func(x *api.Trace) { x.Ins[at].X += by })
		}
		for out := range 3 {
			expectSame(t, "Ip", false, func(x *api.Trace) { x.Outs[out].Ip += by })
			expectSame(t, "Steps", false, func(x *api.Trace) { x.Outs[out].Steps += by })
			for n := range some().Outs[out].Stack {
				expectSame(t, "Stack", false, func(x *api.Trace) { x.Outs[out].Stack[n] += by })
			}
			for n := range some().Outs[out].Back {
				expectSame(t, "Back", false, func(x *api.Trace) { x.Outs[out].Back[n] += by })
			}
		}
		for n := range 3 {
			expectSame(t, "Cells", false, func(x *api.Trace) { x.Cells[n] += by })
		}
	}
}

// P1403: alike in each list: as long, and in the same order.
func TestSameLists(t *testing.T) {
	expectSame(t, "Ins lacks", false, func(x *api.Trace) { x.Ins = x.Ins[:11] })
	expectSame(t, "Ins has more", false, func(x *api.Trace) { x.Ins = append(x.Ins, api.Ins{}) })
	expectSame(t, "Ins changed places", false, func(x *api.Trace) { x.Ins[0], x.Ins[1] = x.Ins[1], x.Ins[0] })
	expectSame(t, "no Ins", false, func(x *api.Trace) { x.Ins = nil })
	expectSame(t, "Outs lacks", false, func(x *api.Trace) { x.Outs = x.Outs[:2] })
	expectSame(t, "Outs has more", false, func(x *api.Trace) { x.Outs = append(x.Outs, api.Out{}) })
	expectSame(t, "Outs changed places", false, func(x *api.Trace) { x.Outs[0], x.Outs[1] = x.Outs[1], x.Outs[0] })
	expectSame(t, "no Outs", false, func(x *api.Trace) { x.Outs = nil })
	expectSame(t, "Stack lacks", false, func(x *api.Trace) { x.Outs[1].Stack = nums(1, 3) })
	expectSame(t, "Stack has more", false, func(x *api.Trace) { x.Outs[1].Stack = nums(1, 3, 3, 0) })
	expectSame(t, "Stack changed places", false, func(x *api.Trace) { x.Outs[1].Stack = nums(3, 1, 3) })
	expectSame(t, "no Stack", false, func(x *api.Trace) { x.Outs[1].Stack = nil })
	expectSame(t, "Back lacks", false, func(x *api.Trace) { x.Outs[2].Back = nums(0, 0) })
	expectSame(t, "Back has more", false, func(x *api.Trace) { x.Outs[1].Back = nums(0) })
	expectSame(t, "Back changed places", false, func(x *api.Trace) { x.Outs[2].Back = nums(0, 8, 0) })
	expectSame(t, "Stack and Back changed places", false, func(x *api.Trace) { x.Outs[0].Stack, x.Outs[0].Back = x.Outs[0].Back, x.Outs[0].Stack })
	expectSame(t, "Cells lack", false, func(x *api.Trace) { x.Cells = nums(200, 201) })
	expectSame(t, "Cells have more", false, func(x *api.Trace) { x.Cells = nums(200, 201, 207, 208) })
	expectSame(t, "Cells changed places", false, func(x *api.Trace) { x.Cells = nums(201, 200, 207) })
	expectSame(t, "no Cells", false, func(x *api.Trace) { x.Cells = nil })
}

// P1403: lists that are nil are empty ones; whether a trace may be is not asked.
func TestSameEmpty(t *testing.T) {
	empty := api.Trace{Ins: []api.Ins{}, Outs: []api.Out{}, Cells: []int{}}
	expect(t, "nil, empty", ir.Same(api.Trace{}, empty), true)
	expect(t, "empty, nil", ir.Same(empty, api.Trace{}), true)
	expectSame(t, "empty Back", true, func(x *api.Trace) { x.Outs[1].Back = []int{} })
	odd := api.Trace{Start: -5, Ins: []api.Ins{{Op: 99}}, Last: 7}
	expect(t, "not right", ir.Right(odd), false)
	expect(t, "like itself", ir.Same(odd, odd), true)
	expect(t, "not like some", ir.Same(odd, some()), false)
}
