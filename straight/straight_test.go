package straight_test

import (
	"math"
	"slices"
	"testing"

	"holloway/api"
	"holloway/straight"
)

func nums(l ...int) []int { return l }

// code reckons 2 times the top plus 1 in one register, beside another one; it is left by exit 0, if that is 0.
func code() straight.Code {
	return straight.Code{
		Trace: api.Trace{
			Slots: 1, Backs: 1, Last: 1,
			Ins: []api.Ins{
				{Op: api.Slot},
				{Op: api.Calc, A: api.Add},
				{Op: api.Const, A: 1},
				{Op: api.Calc, A: api.Add, C: 1},
				{Op: api.Must, X: 0},
				{Op: api.Put, A: 2, C: 1, X: 0},
			},
			Outs: []api.Out{{Ip: 5, Stack: nums(1)}, {Ip: 6, Stack: nums(0, 1, 0)}, {Ip: 7, Back: nums(0, 0)}},
		},
		To: nums(0, 0, 1, 0, -1, -1), Registers: 2,
	}
}

func state(top int) api.State {
	return api.State{Stack: nums(8, top), Back: nums(9, 10), Mem: make([]int, 4)}
}

func expect(t *testing.T, what string, c straight.Code, s, want api.State, exit int, hit bool, watched ...int) {
	t.Helper()
	got, x, h := c.Run(s, watched)
	if x != exit || h != hit || got.Ip != want.Ip || !slices.Equal(got.Stack, want.Stack) || !slices.Equal(got.Back, want.Back) || !slices.Equal(got.Mem, want.Mem) {
		t.Errorf("%s: %+v %d %v, not %+v %d %v", what, got, x, h, want, exit, hit)
	}
}

// Values are put where it is said, in registers that held others; exits tell of what lies in registers.
func TestRun(t *testing.T) {
	c := code()
	expect(t, "to the end", c, state(1), api.State{Ip: 6, Stack: nums(8, 3, 1, 3), Back: nums(9), Mem: nums(0, 0, 0, 1)}, 1, false, 2, 4)
	expect(t, "watched", c, state(1), api.State{Ip: 7, Stack: nums(8), Back: nums(9, 3, 3), Mem: nums(0, 0, 0, 1)}, 2, true, 2, 3)
	expect(t, "no such cell", c, state(2), api.State{Ip: 5, Stack: nums(8, 1), Back: nums(9), Mem: make([]int, 4)}, 0, false)
	c.Trace.Ins[2].A = -4
	expect(t, "a guard", c, state(2), api.State{Ip: 5, Stack: nums(8, -4), Back: nums(9), Mem: make([]int, 4)}, 0, false, 0)
}

// The machine stays as it is, and so does the code.
func TestStays(t *testing.T) {
	c, s := code(), state(1)
	got, _, _ := c.Run(s, nil)
	got.Stack[0], got.Back[0], got.Mem[0] = 50, 50, 50
	expect(t, "again", c, s, api.State{Ip: 6, Stack: nums(8, 3, 1, 3), Back: nums(9), Mem: nums(0, 0, 0, 1)}, 1, false)
}

// An exit that isn't there is told as -1, beside nothing.
func TestNoExit(t *testing.T) {
	for _, x := range nums(math.MinInt, -1, 3, math.MaxInt) {
		c := code()
		c.Trace.Last = x
		expect(t, "Last", c, state(1), api.State{}, -1, false)
		c = code()
		c.Trace.Ins[5].A = x
		expect(t, "A", c, state(1), api.State{}, -1, false, 3)
		c = code()
		c.Trace.Ins[5].X = x
		expect(t, "X", c, state(2), api.State{}, -1, false)
	}
	expect(t, "no code", straight.Code{}, state(1), api.State{}, -1, false)
}

// Registers that aren't there hold 0, and nothing is put into them.
func TestNoRegister(t *testing.T) {
	for _, r := range nums(math.MinInt, -1, 2, math.MaxInt) {
		c := code()
		c.To[2] = r
		expect(t, "To", c, state(1), api.State{Ip: 6, Stack: nums(8, 2, 0, 2), Back: nums(9), Mem: nums(0, 0, 0, 0)}, 1, false)
		c = code()
		c.Trace.Ins[3].C = r
		expect(t, "C", c, state(1), api.State{Ip: 6, Stack: nums(8, 2, 1, 2), Back: nums(9), Mem: nums(0, 0, 1, 0)}, 1, false)
		c = code()
		c.Trace.Outs[1].Stack = nums(r, 1)
		expect(t, "Stack", c, state(1), api.State{Ip: 6, Stack: nums(8, 0, 1), Back: nums(9), Mem: nums(0, 0, 0, 1)}, 1, false)
	}
}
