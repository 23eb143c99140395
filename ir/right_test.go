package ir_test

import (
	"slices"
	"testing"

	"holloway/api"
	"holloway/ir"
)

// some is a trace that is right; places 0 to 5 give, 6 to 11 do not, but 8; it has three exits, and the last of them is its end.
func some() api.Trace {
	return api.Trace{
		Start: 200, Slots: 2, Backs: 1, Grow: 3, GrowBack: 2,
		Ins: []api.Ins{
			{Op: api.Const, A: 5},
			{Op: api.Slot, A: 1},
			{Op: api.Behind, A: 0},
			{Op: api.Calc, A: api.Div, B: 0, C: 1, X: 0},
			{Op: api.Calc, A: api.Negate, B: 3},
			{Op: api.Load, B: 4, X: 1},
			{Op: api.Put, A: 1, B: 2, C: 5, X: 0},
			{Op: api.Same, B: 5, C: 4, X: 1},
			{Op: api.Ask},
			{Op: api.Must, B: 8, X: 1},
			{Op: api.Say, B: 8, X: 1},
			{Op: api.Tell, B: 0, X: 0},
		},
		Outs: []api.Out{
			{Ip: 200, Stack: nums(1, 0), Back: nums(2)},
			{Ip: 207, Steps: 4, Stack: nums(1, 3, 3)},
			{Ip: 200, Steps: 9, Stack: nums(8, 5, 4), Back: nums(0, 0, 8)},
		},
		Last:  2,
		Cells: nums(200, 201, 207),
	}
}

// expectRight holds it whether a trace is right that was changed a bit.
func expectRight(t *testing.T, what string, want bool, change func(x *api.Trace)) {
	t.Helper()
	x := some()
	change(&x)
	if got := ir.Right(x); got != want {
		t.Errorf("%s: Right of %v is %t, not %t", what, x, got, want)
	}
}

// bounds are numbers around 0, and around some others.
func bounds(around ...int) []int {
	l := nums(least, least+1, -1<<32, -2, -1, 0, 1, 1<<31, 1<<32, 1<<32+1, greatest-1, greatest)
	for _, n := range around {
		l = append(l, n-1, n, n+1)
	}
	return l
}

// P1402: as it is, and an empty one.
func TestRight(t *testing.T) {
	expectRight(t, "as it is", true, func(x *api.Trace) {})
	expect(t, "none", ir.Right(api.Trace{}), false)
	expect(t, "an end alone", ir.Right(api.Trace{Outs: []api.Out{{Steps: 1}}}), true)
	expect(t, "lists that are empty", ir.Right(api.Trace{Ins: []api.Ins{}, Cells: []int{}, Outs: []api.Out{{Steps: 1, Stack: []int{}, Back: []int{}}}}), true)
}

// P1402: Start, and how many cells it takes, and needs room for.
func TestRightNumbers(t *testing.T) {
	for _, n := range bounds(2, 48, 2999, 3000) {
		expectRight(t, "Start", n >= 0 && n <= 2999, func(x *api.Trace) { x.Start = n })
		// Slot 1 asks for two Slots, Behind 0 for one of Backs; the three places in Stack, and in Back, for one of Grow and two of GrowBack.
		expectRight(t, "Slots", n >= 2 && n <= 48, func(x *api.Trace) { x.Slots = n })
		expectRight(t, "Grow", n >= 1 && n <= 48, func(x *api.Trace) { x.Grow = n })
		expectRight(t, "Backs", n >= 1 && n <= 48, func(x *api.Trace) { x.Backs = n })
		expectRight(t, "GrowBack", n >= 2 && n <= 48, func(x *api.Trace) { x.GrowBack = n })
	}
	for _, n := range bounds(48) {
		bare := func(f func(x *api.Trace)) bool {
			x := api.Trace{Outs: []api.Out{{Steps: 1}}}
			f(&x)
			return ir.Right(x)
		}
		is := n >= 0 && n <= 48
		expect(t, "Slots alone", bare(func(x *api.Trace) { x.Slots = n }), is)
		expect(t, "Grow alone", bare(func(x *api.Trace) { x.Grow = n }), is)
		expect(t, "Backs alone", bare(func(x *api.Trace) { x.Backs = n }), is)
		expect(t, "GrowBack alone", bare(func(x *api.Trace) { x.GrowBack = n }), is)
	}
	expectRight(t, "all that there may be", true, func(x *api.Trace) { x.Slots, x.Grow, x.Backs, x.GrowBack = 48, 48, 48, 48 })
}

// P1402: at most 1,000 instructions, and 300 exits.
func TestRightSizes(t *testing.T) {
	for _, n := range nums(998, 999, 1000, 1001, 1002, 5000) {
		x := api.Trace{Ins: make([]api.Ins, n), Outs: []api.Out{{Steps: 1}}}
		for at := range x.Ins {
			x.Ins[at].Op = api.Ask
		}
		expect(t, "instructions", ir.Right(x), n <= 1000)
	}
	for _, n := range nums(1, 2, 299, 300, 301, 302, 5000) {
		x := api.Trace{Outs: make([]api.Out, n), Last: n - 1}
		x.Outs[n-1].Steps = 1
		expect(t, "exits", ir.Right(x), n <= 300)
	}
}

// P1402: the last place and the last exit of all that there may be.
func TestRightGreatest(t *testing.T) {
	x := api.Trace{Ins: make([]api.Ins, 1000), Outs: make([]api.Out, 300), Last: 299}
	for at := range x.Ins {
		x.Ins[at].Op = api.Const
	}
	x.Grow = 1
	x.Ins[999] = api.Ins{Op: api.Must, B: 998, X: 298}
	x.Outs[298].Stack = nums(998)
	x.Outs[299] = api.Out{Steps: 120, Ip: 2999, Stack: nums(998)}
	expect(t, "the greatest", ir.Right(x), true)
	x.Outs[299].Stack[0] = 999
	expect(t, "an end that has what gives nothing", ir.Right(x), false)
}

// P1402: each Op one of the twelve.
func TestRightOps(t *testing.T) {
	for _, op := range wrong() {
		for at := range some().Ins {
			expectRight(t, "no instruction", false, func(x *api.Trace) { x.Ins[at].Op = op })
		}
		expectRight(t, "no instruction, behind all", false, func(x *api.Trace) { x.Ins = append(x.Ins, api.Ins{Op: op}) })
	}
	for op := 1; op <= 12; op++ {
		i := api.Ins{Op: op}
		if op == api.Calc {
			i.A = api.Add
		}
		expectRight(t, "one of the twelve, behind all", true, func(x *api.Trace) { x.Ins = append(x.Ins, i) })
	}
}

// P1402: Calc's operation is of two cells or of one; only those that it has are looked at.
func TestRightCalc(t *testing.T) {
	numbers := wrong()
	for op := range 2 * api.Ops {
		numbers = append(numbers, op, -op, 1<<32+op, least+op)
	}
	for _, op := range numbers {
		two, one, divides := slices.Contains(twos, op), slices.Contains(ones, op), slices.Contains(divisions, op)
		calc := func(b, c, out int) func(x *api.Trace) {
			return func(x *api.Trace) { x.Ins = append(x.Ins, api.Ins{Op: api.Calc, A: op, B: b, C: c, X: out}) }
		}
		expectRight(t, "Calc", two || one, calc(0, 1, 0))
		expectRight(t, "Calc of itself", false, calc(12, 1, 0))
		for _, n := range nums(least, -1, 6, 12, 13, greatest) {
			expectRight(t, "Calc's B", false, calc(n, 1, 0))
			expectRight(t, "Calc's C", one, calc(0, n, 0))
		}
		for _, n := range nums(least, -1, 3, 12, greatest) {
			expectRight(t, "Calc's X", one || two && !divides, calc(0, 1, n))
		}
	}
}

// P1402: which cells Slot and Behind name: just those that the trace takes.
func TestRightSlots(t *testing.T) {
	for _, n := range nums(0, 1, 2, 47, 48) {
		for _, a := range bounds(n, 48) {
			x := api.Trace{Slots: n, Ins: []api.Ins{{Op: api.Slot, A: a}}, Outs: []api.Out{{Steps: 1}}}
			expect(t, "Slot", ir.Right(x), a >= 0 && a < n)
			x.Ins[0].Op = api.Behind
			expect(t, "Behind, of Slots", ir.Right(x), false)
			x.Slots, x.Backs = 0, n
			expect(t, "Behind", ir.Right(x), a >= 0 && a < n)
			x.Ins[0].Op = api.Slot
			expect(t, "Slot, of Backs", ir.Right(x), false)
		}
	}
}

// P1402: each place that is used is an earlier one that gives; what an instruction does not name is not looked at.
func TestRightUses(t *testing.T) {
	for at, i := range some().Ins {
		k := of(i)
		for _, n := range bounds(at, 12) {
			is := n >= 0 && n < at && ir.Gives(some().Ins[n].Op)
			expectRight(t, "B", is || k.places == "", func(x *api.Trace) { x.Ins[at].B = n })
			expectRight(t, "C", is || k.places != "BC", func(x *api.Trace) { x.Ins[at].C = n })
		}
	}
	expectRight(t, "B of what gives nothing", false, func(x *api.Trace) { x.Ins[11].B = 10 })
	expectRight(t, "B of what gives nothing any more", false, func(x *api.Trace) { x.Ins[8] = api.Ins{Op: api.MustNot, B: 0, X: 0} })
}

// P1402: each exit that is named is there; what an instruction does not name is not looked at.
func TestRightNamedOuts(t *testing.T) {
	for at, i := range some().Ins {
		k := of(i)
		for _, n := range bounds(3) {
			// Exit 2 has places that are not known ahead of most instructions: see the next test.
			if n == 2 && k.outs != "" {
				continue
			}
			is := n == 0 || n == 1 && at >= 4
			expectRight(t, "X", is || k.outs == "", func(x *api.Trace) { x.Ins[at].X = n })
			if i.Op == api.Put {
				expectRight(t, "A", is, func(x *api.Trace) { x.Ins[at].A = n })
			}
		}
	}
}

// P1402: places of an exit are earlier than each instruction that names it, and give.
func TestRightPlacesOfOuts(t *testing.T) {
	fresh := func(x *api.Trace, out int, stack bool, n int) {
		x.Outs[out].Stack, x.Outs[out].Back = nil, nums(0, n)
		if stack {
			x.Outs[out].Stack, x.Outs[out].Back = x.Outs[out].Back, nil
		}
	}
	for _, stack := range []bool{true, false} {
		for _, n := range bounds(3, 6, 8, 12) {
			earlier := func(at int) bool { return n >= 0 && n < at && n != 6 && n != 7 && n < 9 }
			// Exit 0 is named at 3, and at 6 and 11; exit 1 at 5 first; exit 2 at the end alone.
			expectRight(t, "exit 0", earlier(3), func(x *api.Trace) { fresh(x, 0, stack, n) })
			expectRight(t, "exit 1", earlier(5), func(x *api.Trace) { fresh(x, 1, stack, n) })
			expectRight(t, "exit 2", earlier(12), func(x *api.Trace) { fresh(x, 2, stack, n) })
		}
		for _, at := range nums(3, 5, 6, 7, 9, 10, 11) {
			for n := range 13 {
				is := n < at && n != 6 && n != 7 && n < 9
				expectRight(t, "X's places", is, func(x *api.Trace) { fresh(x, 2, stack, n); x.Last = 1; x.Ins[at].X = 2 })
				if at == 6 {
					expectRight(t, "A's places", is, func(x *api.Trace) { fresh(x, 2, stack, n); x.Last = 1; x.Ins[at].A = 2 })
				}
			}
		}
	}
}

// P1402: an exit that nobody names may have whatever places, but not more of them than others.
func TestRightUnnamedOut(t *testing.T) {
	more := func(o api.Out) func(x *api.Trace) {
		return func(x *api.Trace) { x.Outs = append(x.Outs, o) }
	}
	expectRight(t, "no places", true, more(api.Out{}))
	expectRight(t, "whatever places", true, more(api.Out{Stack: nums(99, -1, least, greatest, 6), Back: nums(12, -1, greatest)}))
	expectRight(t, "too many in Stack", false, more(api.Out{Stack: nums(0, 0, 0, 0, 0, 0)}))
	expectRight(t, "too many in Back", false, more(api.Out{Back: nums(0, 0, 0, 0)}))
	expectRight(t, "Steps", false, more(api.Out{Steps: 121}))
	expectRight(t, "Ip", false, more(api.Out{Ip: -1}))
	expectRight(t, "named behind all", false, func(x *api.Trace) {
		more(api.Out{Stack: nums(12)})(x)
		x.Ins = append(x.Ins, api.Ins{Op: api.Tell, X: 3})
	})
}

// P1402: Last is an exit, and its Steps are 1 or more.
func TestRightLast(t *testing.T) {
	for _, n := range bounds(3) {
		expectRight(t, "Last", n == 1 || n == 2, func(x *api.Trace) { x.Last = n })
		expectRight(t, "Last, with steps everywhere", n >= 0 && n <= 2, func(x *api.Trace) { x.Outs[0].Steps, x.Last = 1, n })
	}
	for _, n := range bounds(120) {
		expectRight(t, "Steps of Last", n >= 1 && n <= 120, func(x *api.Trace) { x.Outs[2].Steps = n })
	}
	expect(t, "no exits", ir.Right(api.Trace{Outs: []api.Out{}}), false)
}

// P1402: Steps and Ip of each exit.
func TestRightOuts(t *testing.T) {
	for out := range 3 {
		for _, n := range bounds(120, 2999, 3000) {
			is := n >= 0 && n <= 120 && (out < 2 || n > 0)
			expectRight(t, "Steps", is, func(x *api.Trace) { x.Outs[out].Steps = n })
			expectRight(t, "Ip", n >= 0 && n <= 2999, func(x *api.Trace) { x.Outs[out].Ip = n })
		}
	}
}

// P1402: at most Slots and Grow places in Stack, at most Backs and GrowBack in Back.
func TestRightManyPlaces(t *testing.T) {
	for out := range 3 {
		for n := range 9 {
			expectRight(t, "Stack", n <= 5, func(x *api.Trace) { x.Outs[out].Stack = make([]int, n) })
			expectRight(t, "Back", n <= 3, func(x *api.Trace) { x.Outs[out].Back = make([]int, n) })
		}
	}
	for _, n := range nums(0, 1, 48, 95, 96, 97, 500) {
		full := api.Trace{Slots: 48, Grow: 48, Ins: []api.Ins{{Op: api.Ask}}, Outs: []api.Out{{Steps: 1, Stack: make([]int, n)}}}
		expect(t, "Stack", ir.Right(full), n <= 96)
		full = api.Trace{Backs: 48, GrowBack: 48, Ins: []api.Ins{{Op: api.Ask}}, Outs: []api.Out{{Steps: 1, Back: make([]int, n)}}}
		expect(t, "Back", ir.Right(full), n <= 96)
	}
}

// P1402: Cells rise, from 0 on, below MaxMem.
func TestRightCells(t *testing.T) {
	for _, l := range [][]int{nil, {}, {0}, {2999}, {0, 2999}, {0, 1, 2}, {7, 8, 2998, 2999}} {
		expectRight(t, "they rise", true, func(x *api.Trace) { x.Cells = l })
	}
	for _, l := range [][]int{{-1}, {-1, 0}, {least}, {3000}, {0, 3000}, {greatest}, {5, 5}, {6, 5}, {0, 0}, {1, 3, 2}, {2999, 2999}, {0, 1, least}, {greatest, least}} {
		expectRight(t, "they do not", false, func(x *api.Trace) { x.Cells = l })
	}
	all := make([]int, 3001)
	for a := range all {
		all[a] = a
	}
	expectRight(t, "all", true, func(x *api.Trace) { x.Cells = all[:3000] })
	expectRight(t, "one more", false, func(x *api.Trace) { x.Cells = all })
}

// P1402, P1403: what is handed in stays as it is.
func TestRightLeavesAll(t *testing.T) {
	x := some()
	ir.Right(x)
	ir.Same(x, some())
	expect(t, "the same", ir.Same(x, some()), true)
	for at, i := range some().Ins {
		expect(t, "instruction", x.Ins[at], i)
	}
}
