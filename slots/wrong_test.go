package slots_test

import (
	"testing"

	"holloway/api"
	"holloway/eval"
	"holloway/ir"
	"holloway/slots"
)

// expectNone holds it that there is no code of a trace, in however many registers.
func expectNone(t *testing.T, what string, a api.Trace) {
	t.Helper()
	if ir.Right(a) {
		t.Fatalf("%s: %+v is right", what, a)
	}
	expect(t, what+": Least", slots.Least(a), 0)
	for _, most := range append(edges(), 1000) {
		if c, is := slots.Make(a, most); is || c != nil {
			t.Errorf("%s: code of %+v", what, a)
		}
	}
}

// P2001: no code of what is not right.
func TestNotRight(t *testing.T) {
	expectNone(t, "the zero trace", api.Trace{})
	expectNone(t, "no exit", api.Trace{Ins: all(con(1), con(2))})
	for _, ins := range [][]api.Ins{
		all(calc(api.Add, 1, 1), con(2)), all(must(0)), all(con(1), must(0), must(1)), all(con(1), calc(api.Add, 0, 2)),
		all(api.Ins{}), all(api.Ins{Op: 13}), all(slot(2)), all(behind(-1)), all(con(1), calc(api.Dup, 0, 0)), all(con(1), by(4, must(0))), all(con(1), by(-1, load(0))),
	} {
		expectNone(t, "an instruction", bare(nil, ins...))
	}
	expectNone(t, "a place at the end", bare(nums(1), con(1)))
	expectNone(t, "no value at the end", bare(nums(1), con(1), must(0)))
	a := bare(nil, con(1), by(spare, must(0)))
	a.Outs[spare].Stack = nums(1)
	expectNone(t, "a place that is not ahead", a)
	a = bare(nil, con(1))
	a.Outs[end].Steps = 0
	expectNone(t, "no Steps", a)
	a = bare(nil, con(1))
	a.Cells = nums(3, 3)
	expectNone(t, "cells that do not rise", a)
}

// P2001: a nil Code, and a zero one, which is as a nil one: the machine as it is, and no exit.
func TestNoCode(t *testing.T) {
	var zero slots.Code
	for _, c := range []*slots.Code{nil, &zero} {
		expect(t, "Registers", c.Registers(), 0)
		expect(t, "Len", c.Len(), 0)
		for _, s := range append(states(), api.State{Mem: nums(1, 2)}, api.State{Stack: nums(1), Back: nums(2), Out: "o"}) {
			for _, watched := range [][]int{nil, nums(0, 1)} {
				got, done := c.Run(s, watched...)
				expect(t, "as it is", alike(got, s), true)
				expect(t, "no exit", done, eval.Done{Exit: -1})
			}
		}
	}
}

// P2001: a machine that may not be: as eval.Run, and nothing panics.
func TestWrongStates(t *testing.T) {
	a := trace(nums(0, 1, own), ask(), ask(), say(0), load(0))
	c := expectCode(t, "all kinds", a, 4, states()...)
	for _, n := range append(edges(), 48, 49, 1000, 3000) {
		s := states()[0]
		s.Read = n
		expectRun(t, "Read", a, c, s)
		s.Status = n
		expectRun(t, "Status", a, c, s)
		s = states()[0]
		s.Ip = n
		expectRun(t, "Ip", a, c, s)
		if n >= 0 && n <= 3000 {
			s = states()[0]
			s.Stack = make([]int, n)
			expectRun(t, "Stack", a, c, s)
			s.Stack, s.Back = nums(1, 2), make([]int, n)
			expectRun(t, "Back", a, c, s)
			s.Back, s.Out = nums(1, 2), string(make([]byte, n))
			expectRun(t, "Out", a, c, s)
			s.Mem = make([]int, n)
			expectRun(t, "Mem", a, c, s, n-1)
		}
	}
}
