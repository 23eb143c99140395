package record_test

import (
	"slices"
	"testing"

	"holloway/api"
	"holloway/inner"
	"holloway/op"
	"holloway/record"
)

// some is a recording of three steps that is right.
func some() api.Recording {
	return api.Recording{Start: 5, End: 9, Steps: []api.Seen{seen(5, api.Lit, 3, 7), seen(7, 500, 0, 2), seen(2, api.Dup, 0, 9)}}
}

// expectRight holds it whether a recording is right that was changed a bit.
func expectRight(t *testing.T, what string, want bool, change func(r *api.Recording)) {
	t.Helper()
	r := some()
	change(&r)
	if got := record.Right(r); got != want {
		t.Errorf("%s: Right of %v is %t, not %t", what, r, got, want)
	}
}

// step is a recording of one step.
func step(x api.Seen) api.Recording {
	return api.Recording{Start: x.Ip, End: x.Next, Loop: x.Ip == x.Next, Steps: []api.Seen{x}}
}

// P1302: the first at Start, each at the Next of the one ahead, the last one's Next End.
func TestRightChain(t *testing.T) {
	expectRight(t, "as it is", true, func(r *api.Recording) {})
	for _, by := range nums(-1, 1, 100, 1<<32, least) {
		expectRight(t, "Start", false, func(r *api.Recording) { r.Start += by })
		expectRight(t, "End", false, func(r *api.Recording) { r.End += by })
		for i := range 3 {
			expectRight(t, "Ip", false, func(r *api.Recording) { r.Steps[i].Ip += by })
			expectRight(t, "Next", false, func(r *api.Recording) { r.Steps[i].Next += by })
		}
	}
	expectRight(t, "a step lacks", false, func(r *api.Recording) { r.Steps = slices.Delete(r.Steps, 1, 2) })
	expectRight(t, "the last lacks", false, func(r *api.Recording) { r.Steps = r.Steps[:2] })
	expectRight(t, "the last lacks, and End is there", true, func(r *api.Recording) { r.Steps, r.End = r.Steps[:2], 2 })
	expectRight(t, "two changed places", false, func(r *api.Recording) { r.Steps[1], r.Steps[2] = r.Steps[2], r.Steps[1] })
	expectRight(t, "Start and Ip", true, func(r *api.Recording) { r.Start, r.Steps[0].Ip = 4, 4 })
	expectRight(t, "Next and Ip", true, func(r *api.Recording) { r.Steps[1].Next, r.Steps[2].Ip = 4, 4 })
	expectRight(t, "an Ip twice", true, func(r *api.Recording) { r.Steps[1].Next, r.Steps[2].Ip = 7, 7 })
	expectRight(t, "End where it was already", true, func(r *api.Recording) { r.Steps[2].Next, r.End = 7, 7 })
}

// P1302: Loop just if there are steps, and End is Start; no step but the first is there.
func TestRightLoop(t *testing.T) {
	round := func(r *api.Recording) { r.Steps[2].Next, r.End, r.Loop = 5, 5, true }
	expectRight(t, "round", true, round)
	expectRight(t, "round, not told", false, func(r *api.Recording) { round(r); r.Loop = false })
	expectRight(t, "told, not round", false, func(r *api.Recording) { r.Loop = true })
	for i := 1; i < 3; i++ {
		for _, loop := range []bool{false, true} {
			expectRight(t, "at Start again", false, func(r *api.Recording) {
				r.Steps[i-1].Next, r.Steps[i].Ip, r.Loop = 5, 5, loop
			})
			expectRight(t, "at Start again, and round", false, func(r *api.Recording) {
				round(r)
				r.Steps[i-1].Next, r.Steps[i].Ip, r.Loop = 5, 5, loop
			})
		}
	}
}

// P1302: without steps End is Start, wherever that is, and nothing goes round.
func TestRightNone(t *testing.T) {
	for _, start := range nums(0, 5, 2999, 3000, -5, least, greatest) {
		expectIs(t, "none", record.Right(api.Recording{Start: start, End: start}), true)
		expectIs(t, "none, empty", record.Right(api.Recording{Start: start, End: start, Steps: []api.Seen{}}), true)
		expectIs(t, "none, elsewhere", record.Right(api.Recording{Start: start, End: start + 1}), false)
		expectIs(t, "none, round", record.Right(api.Recording{Start: start, End: start, Loop: true}), false)
	}
}

// P1302: each Cell an operation that is plain, or from First on; Arg 0 where it has no operand.
func TestRightCells(t *testing.T) {
	cells := nums(least, -1<<32+api.Dup, -3, -2, -1, 1<<32, 1<<32+api.Lit, greatest, 2999, 3000)
	for c := range 3 * api.First {
		cells = append(cells, c)
	}
	for _, c := range cells {
		is := c >= 64 || c >= 0 && c < 48 && c != api.Halt && c != api.EndCatch && c != api.Throw && c != api.Catch
		arg := c == api.Lit || c == api.Branch || c == api.Zero || c == api.Loop || c == api.PlusLoop
		for i := range 3 {
			expectRight(t, "Cell", is, func(r *api.Recording) { r.Steps[i].Cell, r.Steps[i].Arg = c, 0 })
			for _, v := range nums(1, -1, least, greatest, 3000) {
				expectRight(t, "Arg", is && arg, func(r *api.Recording) { r.Steps[i].Cell, r.Steps[i].Arg = c, v })
			}
		}
	}
}

// P1302: Ip and Next are places; the operand of one lies behind its Ip.
func TestRightPlaces(t *testing.T) {
	for _, a := range nums(least, -1<<32, -2, -1, 0, 1, 2997, 2998, 2999, 3000, 3001, 1<<32, greatest-1, greatest) {
		is := a >= 0 && a <= 2999
		expectIs(t, "Next", record.Right(step(seen(7, api.Branch, 3000, a))), is)
		for _, c := range nums(api.Dup, api.Exit, api.Ops+16, 3000, greatest) {
			expectIs(t, "Ip", record.Right(step(seen(a, c, 0, 7))), is)
		}
		for _, c := range nums(api.Lit, api.Branch, api.Zero, api.Loop, api.PlusLoop) {
			expectIs(t, "Ip of one with an operand", record.Right(step(seen(a, c, 1, 7))), is && a <= 2998)
		}
		expectRight(t, "a place within", is, func(r *api.Recording) { r.Steps[1].Next, r.Steps[2].Ip = a, a })
		expectRight(t, "a place within, with an operand", is && a <= 2998, func(r *api.Recording) {
			r.Steps[1].Next, r.Steps[2].Ip, r.Steps[2].Cell = a, a, api.Lit
		})
	}
}

// P1302: at most MaxTrace steps, whether they go round or not.
func TestRightMost(t *testing.T) {
	for _, n := range nums(1, 2, 119, 120, 121, 122, 500) {
		r := api.Recording{Start: 1, End: n + 1}
		for k := range n {
			r.Steps = append(r.Steps, seen(1+k, api.Dup, 0, 2+k))
		}
		expectIs(t, "steps", record.Right(r), n <= 120)
		r.End, r.Steps[n-1].Next, r.Loop = 1, 1, true
		expectIs(t, "steps that go round", record.Right(r), n <= 120)
	}
}

// expectCells holds the cells of steps against what is wanted.
func expectCells(t *testing.T, what string, want []int, steps ...api.Seen) {
	t.Helper()
	if got := record.Cells(api.Recording{Steps: steps}); !slices.Equal(got, want) {
		t.Errorf("%s: %v, not %v", what, got, want)
	}
}

// P1302: the cells that were looked at, rising, each once.
func TestCells(t *testing.T) {
	expectCells(t, "none", nil)
	expectCells(t, "falling, twice, and one that is an operand, too", nums(4, 9, 10, 11),
		api.Seen{Ip: 10, Cell: api.Lit}, api.Seen{Ip: 9, Cell: api.Zero}, api.Seen{Ip: 9, Cell: api.Zero}, api.Seen{Ip: 4, Cell: 300})
	for o := range api.Ops {
		want := nums(7)
		if op.Arg(o) {
			want = nums(7, 8)
		}
		expectCells(t, op.Name(o), want, api.Seen{Ip: 7, Cell: o, Arg: 3, Next: 99})
	}
	for _, c := range nums(64, 3000, greatest) {
		expectCells(t, "a call", nums(7), api.Seen{Ip: 7, Cell: c, Next: c})
	}
	expectCells(t, "at the end", nums(2998, 2999), api.Seen{Ip: 2998, Cell: api.Branch}, api.Seen{Ip: 2999, Cell: api.Exit})
	s := machine(nil, nums(3, 0), api.Nop, 220, api.Loop, 201, api.Branch, 200)
	s.Mem[220] = api.Exit
	if got, want := record.Cells(record.Loop(s, 99)), nums(200, 201, 202, 203, 204, 205, 220); !slices.Equal(got, want) {
		t.Errorf("of a loop: %v, not %v", got, want)
	}
}

// P1302: the cells are a list of their own, and the recording stays as it is.
func TestCellsLeaveAll(t *testing.T) {
	r := some()
	first := record.Cells(r)
	clear(first)
	expect(t, "the recording", r, some())
	if got, want := record.Cells(r), nums(2, 5, 6, 7); !slices.Equal(got, want) {
		t.Errorf("cells: %v, not %v", got, want)
	}
	record.Right(r)
	expect(t, "the recording", r, some())
}

// P1302: a state behind as many steps, whatever they are.
func TestAfter(t *testing.T) {
	s := machine(nums(1), nums(3, 0), api.Dup, api.Drop, api.Loop, 200, api.Lit, 6, api.Halt)
	want := s
	for n := range 30 {
		r := api.Recording{Steps: make([]api.Seen, n)}
		expectSame(t, "After", record.After(s, r), want)
		want = inner.Step(want)
	}
	expectIs(t, "Done", want.Status, api.Done)

	s = machine(nums(1), nums(203, 0, 1), api.Nop, api.Add, api.Halt, api.Dup, api.Halt)
	s.Handler = 3
	got := record.After(s, api.Recording{Steps: make([]api.Seen, 3)})
	caught := inner.Step(inner.Step(inner.Step(s)))
	expectSame(t, "behind a fault that is caught", got, caught)
	expectIs(t, "it was", got.Ip == 204 && slices.Equal(got.Stack, nums(1, api.Under, api.Under)), true)

	s.Status = api.Done
	expectSame(t, "not running", record.After(s, some()), s)
}

// P1302: behind a loop the machine is where it began.
func TestAfterLoop(t *testing.T) {
	s := machine(nums(7), nums(9, 1), api.Lit, 2, api.Add, api.Loop, 200)
	r := record.Loop(s, 99)
	got := record.After(s, r)
	expectIs(t, "steps", len(r.Steps), 3)
	expectIs(t, "Ip", got.Ip, r.End)
	expectIs(t, "Stack", slices.Equal(got.Stack, nums(9)), true)
	expectIs(t, "Back", slices.Equal(got.Back, nums(9, 2)), true)
	expect(t, "once more", record.Loop(got, 99), r)
}

// P1302: what After tells shares nothing with what was handed in, also behind no steps.
func TestAfterLeavesAll(t *testing.T) {
	for n := range 4 {
		fresh := func() api.State { return machine(nums(1, 250), nums(3, 0), api.Copy, api.Copy, api.Store, api.Halt) }
		s := fresh()
		got := record.After(s, api.Recording{Steps: make([]api.Seen, n)})
		expectSame(t, "the state", s, fresh())
		clear(got.Stack)
		clear(got.Back)
		clear(got.Mem)
		expectSame(t, "the state", s, fresh())
	}
}
