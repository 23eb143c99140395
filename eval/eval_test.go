package eval_test

import (
	"math"
	"slices"
	"strconv"
	"strings"
	"testing"

	"holloway/api"
	"holloway/eval"
	"holloway/ir"
)

const (
	least    = math.MinInt
	greatest = math.MaxInt
)

// nums makes a list.
func nums(l ...int) []int { return l }

// ins makes an instruction of its numbers: A, B, C, X.
func ins(op, a, b, c, x int) api.Ins { return api.Ins{Op: op, A: a, B: b, C: c, X: x} }

// These are the exits of the traces that are made here, and where the machine is then, and behind how many steps.
const (
	aside      = 0 // with nothing but what was taken
	end        = 1
	hit        = 2
	asideIp    = 70
	endIp      = 80
	hitIp      = 90
	asideSteps = 0
	endSteps   = 9
	hitSteps   = 5
)

// trace makes one that takes three cells of the stack and two of the return stack: at its end these places lie there instead.
func trace(stack, back []int, more ...api.Ins) api.Trace {
	return api.Trace{
		Start: start, Slots: 3, Backs: 2, Grow: 5, GrowBack: 4,
		Ins: append([]api.Ins{
			ins(api.Slot, 0, 0, 0, 0), ins(api.Slot, 1, 0, 0, 0), ins(api.Slot, 2, 0, 0, 0),
			ins(api.Behind, 0, 0, 0, 0), ins(api.Behind, 1, 0, 0, 0),
		}, more...),
		Outs: []api.Out{
			{Ip: asideIp, Steps: asideSteps, Stack: nums(2, 1, 0), Back: nums(4, 3)},
			{Ip: endIp, Steps: endSteps, Stack: stack, Back: back},
			{Ip: hitIp, Steps: hitSteps, Stack: nums(0)},
		},
		Last: end,
	}
}

// start is where they begin.
const start = 7

// own is the place of the first instruction that is more in trace.
const own = 5

// state makes a machine in which a trace may be entered; by the places of trace: a is 0, b 1, c 2.
func state(c, b, a int) api.State {
	return api.State{
		Ip: start, Handler: 2, Stack: nums(-7, -8, c, b, a), Back: nums(-9, 31, 30),
		Mem: nums(100, 101, 102, 103, 104), Out: "<", In: "xyz", Read: 1, Code: -44,
	}
}

func expect[T comparable](t *testing.T, what string, got, want T) {
	t.Helper()
	if got != want {
		t.Errorf("%s: %v, not %v", what, got, want)
	}
}

// alike tells whether two machines are; lists that are nil and empty are one.
func alike(a, b api.State) bool {
	return a.Ip == b.Ip && a.Handler == b.Handler && a.Out == b.Out && a.In == b.In && a.Read == b.Read &&
		a.Status == b.Status && a.Code == b.Code &&
		slices.Equal(a.Stack, b.Stack) && slices.Equal(a.Back, b.Back) && slices.Equal(a.Mem, b.Mem)
}

// expectRun runs a trace, which must be right, and holds what is told against what is wanted.
func expectRun(t *testing.T, what string, x api.Trace, s, want api.State, done eval.Done, watched ...int) {
	t.Helper()
	if !ir.Right(x) {
		t.Errorf("%s: %v isn't right", what, x)
	}
	got, d := eval.Run(x, s, watched...)
	if !alike(got, want) {
		t.Errorf("%s: %+v, not %+v", what, got, want)
	}
	expect(t, what, d, done)
}

// expectEnd runs instructions up to their end, where the stack has some places' values instead of what was taken.
func expectEnd(t *testing.T, what string, s api.State, places, values []int, more ...api.Ins) {
	t.Helper()
	want := s
	want.Ip, want.Stack, want.Back = endIp, append(nums(-7, -8), values...), nums(-9)
	expectRun(t, what, trace(places, nil, more...), s, want, eval.Done{Exit: end, Steps: endSteps})
}

// expectAside runs instructions of which one leaves by the exit aside, where nothing else has changed.
func expectAside(t *testing.T, what string, s api.State, more ...api.Ins) {
	t.Helper()
	want := s
	want.Ip = asideIp
	// What is behind the exit is not done.
	more = append(more, ins(api.Say, 0, 0, 0, aside), ins(api.Ask, 0, 0, 0, 0))
	expectRun(t, what, trace(nil, nil, more...), s, want, eval.Done{Exit: aside, Steps: asideSteps})
}

// expectGuard holds it whether a guard goes on.
func expectGuard(t *testing.T, what string, s api.State, on bool, guard api.Ins) {
	t.Helper()
	if on {
		expectEnd(t, what, s, nums(1), s.Stack[3:4], guard)
		return
	}
	expectAside(t, what, s, guard)
}

// edges are numbers that would be others in fewer bits, or without a sign.
func edges() []int {
	return nums(least, least+1, -1<<32, -256, -2, -1, 0, 1, 2, 255, 256, 1<<31, 1<<32, 1<<32+1, greatest-1, greatest)
}

// P1502: the chapter's example.
func TestExample(t *testing.T) {
	x := api.Trace{
		Start: 3, Slots: 1,
		Ins:  []api.Ins{{Op: api.Slot}, {Op: api.Calc, A: api.Add}},
		Outs: []api.Out{{Ip: 4, Steps: 2, Stack: nums(1)}},
	}
	s := api.State{Ip: 3, Stack: nums(5, 21)}
	expectRun(t, "doubled", x, s, api.State{Ip: 4, Stack: nums(5, 42)}, eval.Done{Steps: 2})
	expectRun(t, "alone", x, api.State{Ip: 3, Stack: nums(21)}, api.State{Ip: 4, Stack: nums(42)}, eval.Done{Steps: 2})
}

// P1501: a machine that runs, at the trace's start.
func TestMayStart(t *testing.T) {
	x := trace(nil, nil)
	may := func(change func(s *api.State)) bool {
		s := state(1, 2, 3)
		change(&s)
		return eval.May(x, s)
	}
	expect(t, "as it is", may(func(s *api.State) {}), true)
	for _, ip := range append(edges(), start-1, start, start+1, start+1<<32) {
		expect(t, "Ip", may(func(s *api.State) { s.Ip = ip }), ip == start)
	}
	expect(t, "Done", may(func(s *api.State) { s.Status = api.Done }), false)
	expect(t, "Thrown", may(func(s *api.State) { s.Status = api.Thrown }), false)
	expect(t, "Thrown, of another code", may(func(s *api.State) { s.Status, s.Code = api.Thrown, 0 }), false)
	for _, n := range edges() {
		expect(t, "Handler", may(func(s *api.State) { s.Handler = n }), true)
		expect(t, "Code", may(func(s *api.State) { s.Code = n }), true)
	}
	expect(t, "no memory", may(func(s *api.State) { s.Mem = nil }), true)
	expect(t, "a full output", may(func(s *api.State) { s.Out = strings.Repeat("x", 2000) }), true)
	expect(t, "all read", may(func(s *api.State) { s.Read = 3 }), true)
}

// P1501: what a trace takes must be there, and the room that it needs is counted from what there is, not from what it leaves.
func TestMayRoom(t *testing.T) {
	for n := range 49 {
		for _, takes := range nums(0, 1, 2, 24, 47, 48) {
			for _, grow := range nums(0, 1, 2, 24, 47, 48) {
				want := n >= takes && n+grow <= 48
				l := make([]int, n)
				expect(t, "the stack", eval.May(api.Trace{Slots: takes, Grow: grow}, api.State{Stack: l}), want)
				expect(t, "the return stack", eval.May(api.Trace{Backs: takes, GrowBack: grow}, api.State{Back: l}), want)
				both := api.Trace{Slots: takes, Grow: grow, Backs: takes, GrowBack: grow}
				expect(t, "both", eval.May(both, api.State{Stack: l, Back: l}), want)
				expect(t, "the other one", eval.May(both, api.State{Stack: l}), want && takes == 0)
			}
		}
	}
}

// P1502: where May refuses, the machine is told as it is, without what might be done.
func TestRefused(t *testing.T) {
	x := trace(nums(2), nums(1), ins(api.Say, 0, 0, 0, aside), ins(api.Put, end, 2, 2, aside), ins(api.Ask, 0, 0, 0, 0))
	refused := func(what string, change func(s *api.State)) {
		t.Helper()
		s := state(1, 2, 3)
		change(&s)
		expect(t, what, eval.May(x, s), false)
		expectRun(t, what, x, s, s, eval.Done{Exit: -1}, 1)
	}
	refused("Ip", func(s *api.State) { s.Ip++ })
	refused("Done", func(s *api.State) { s.Status = api.Done })
	refused("Thrown", func(s *api.State) { s.Status = api.Thrown })
	refused("Stack lacks", func(s *api.State) { s.Stack = s.Stack[:2] })
	refused("no Stack", func(s *api.State) { s.Stack = nil })
	refused("Stack is full", func(s *api.State) { s.Stack = make([]int, 44) })
	refused("Back lacks", func(s *api.State) { s.Back = s.Back[:1] })
	refused("no Back", func(s *api.State) { s.Back = nil })
	refused("Back is full", func(s *api.State) { s.Back = make([]int, 45) })
	empty := api.State{Status: api.Done}
	expectRun(t, "an empty one", x, empty, empty, eval.Done{Exit: -1})
}

// P1502: a trace without instructions goes to its end.
func TestNoInstructions(t *testing.T) {
	x := api.Trace{Start: 7, Slots: 1, Backs: 1, Outs: []api.Out{{Ip: 1}, {Ip: 6, Steps: 120}}, Last: 1}
	s := state(1, 2, 3)
	want := s
	want.Ip, want.Stack, want.Back = 6, nums(-7, -8, 1, 2), nums(-9, 31)
	expectRun(t, "taken", x, s, want, eval.Done{Exit: 1, Steps: 120})
	x.Slots, x.Backs = 0, 0
	want.Stack, want.Back = s.Stack, s.Back
	expectRun(t, "nothing taken", x, s, want, eval.Done{Exit: 1, Steps: 120})
}

// P1502: Const, Slot and Behind.
func TestPlaces(t *testing.T) {
	for _, n := range edges() {
		expectEnd(t, "Const", state(1, 2, 3), nums(own, own+1), nums(n, 6), ins(api.Const, n, 9, 9, 9), ins(api.Const, 6, 0, 0, 0))
		expectEnd(t, "Slot", state(1, n, 3), nums(1), nums(n))
	}
	expectEnd(t, "Slots", state(1, 2, 3), nums(0, 1, 2), nums(3, 2, 1))
	expectEnd(t, "Slots as they were", state(1, 2, 3), nums(own, own+1), nums(3, 1), ins(api.Slot, 0, 9, 9, 9), ins(api.Slot, 2, 9, 9, 9))
	expectEnd(t, "Behinds", state(1, 2, 3), nums(3, 4), nums(30, 31))
	expectEnd(t, "Behinds as they were", state(1, 2, 3), nums(own, own+1), nums(31, 30), ins(api.Behind, 1, 9, 9, 9), ins(api.Behind, 0, 9, 9, 9))
}

// P1502: each cell of stacks that are as great as may be.
func TestDeepPlaces(t *testing.T) {
	x := api.Trace{Slots: 48, Backs: 48, Outs: []api.Out{{Steps: 1}}}
	var s, want api.State
	for k := range 48 {
		x.Ins = append(x.Ins, ins(api.Slot, k, 0, 0, 0), ins(api.Behind, k, 0, 0, 0))
		x.Outs[0].Stack = append(x.Outs[0].Stack, 2*k+1)
		x.Outs[0].Back = append(x.Outs[0].Back, 2*k)
		s.Stack, s.Back = append(s.Stack, 100+k), append(s.Back, 200+k)
		want.Stack, want.Back = append(want.Stack, 247-k), append(want.Back, 147-k)
	}
	expectRun(t, "all", x, s, want, eval.Done{Steps: 1})
}

// P1502: operations of two values, the lower one first, and of one, whatever C is.
func TestCalc(t *testing.T) {
	two := func(op, a, b, want int) {
		t.Helper()
		expectEnd(t, "of two", state(0, a, b), nums(own), nums(want), ins(api.Calc, op, 1, 0, aside))
	}
	two(api.Add, greatest, 2, least+1)
	two(api.Sub, 3, 5, -2)
	two(api.Mul, -3, 5, -15)
	two(api.Div, -7, 2, -4)
	two(api.Mod, -7, 2, 1)
	two(api.Div, least, -1, least)
	two(api.Mod, least, -1, 0)
	two(api.Div, 0, 5, 0)
	two(api.Mod, 0, -5, 0)
	two(api.And, 12, 10, 8)
	two(api.Or, 12, 10, 14)
	two(api.Xor, 12, 10, 6)
	two(api.Left, 3, 4, 48)
	two(api.Left, 3, 64, 0)
	two(api.Right, -1, 60, 15)
	two(api.Equal, 4, 4, -1)
	two(api.Equal, 4, 5, 0)
	two(api.Less, -4, 5, -1)
	two(api.ULess, -4, 5, 0)
	two(api.Min, -4, 5, -4)
	two(api.Max, -4, 5, 5)
	for _, c := range append(edges(), 4, own, 999) {
		one := func(op, a, want int) {
			t.Helper()
			expectEnd(t, "of one", state(0, a, 9), nums(own), nums(want), ins(api.Calc, op, 1, c, c))
		}
		one(api.Negate, 5, -5)
		one(api.Negate, least, least)
		one(api.Invert, 5, -6)
		one(api.IsZero, 5, 0)
		one(api.IsZero, 0, -1)
		one(api.IsNeg, 5, 0)
		one(api.IsNeg, -5, -1)
	}
	expectEnd(t, "of itself", state(0, 0, 6), nums(own), nums(36), ins(api.Calc, api.Mul, 0, 0, 99))
	expectEnd(t, "of others' values", state(0, 0, 6), nums(own+1, own), nums(1296, 36), ins(api.Calc, api.Mul, 0, 0, 99), ins(api.Calc, api.Mul, own, own, 99))
}

// P1502: what is divided by 0 leaves the trace; nothing else that is reckoned does, by 0 or not.
func TestByZero(t *testing.T) {
	for _, a := range edges() {
		for _, op := range nums(api.Div, api.Mod) {
			expectAside(t, "by 0", state(0, a, 0), ins(api.Calc, op, 1, 0, aside))
		}
		for _, op := range nums(api.Add, api.Sub, api.Or, api.Xor, api.Left, api.Right) {
			expectEnd(t, "of 0", state(0, a, 0), nums(own), nums(a), ins(api.Calc, op, 1, 0, aside))
		}
	}
	by := trace(nil, nil, ins(api.Calc, api.Div, 1, 0, hit))
	s := state(5, 1, 0)
	want := s
	want.Ip, want.Stack, want.Back = hitIp, nums(-7, -8, 0), nums(-9)
	expectRun(t, "by another exit", by, s, want, eval.Done{Exit: hit, Steps: hitSteps}, 0)
}

// P1502: Load, of all cells that there are.
func TestLoad(t *testing.T) {
	load := ins(api.Load, 9, 0, 9, aside)
	for a, v := range state(0, 0, 0).Mem {
		expectEnd(t, "Load", state(1, 2, a), nums(own), nums(v), load)
	}
	for _, a := range append(edges(), 5, 6, 2999, 3000, 3001) {
		if a >= 0 && a < 5 {
			continue
		}
		expectAside(t, "of no such cell", state(1, 2, a), load)
	}
	s := state(1, 2, 0)
	s.Mem = nil
	expectAside(t, "of no memory", s, load)
	s = state(1, 2, 2999)
	s.Mem = make([]int, 3000)
	s.Mem[2999] = least
	expectEnd(t, "of the last of all", s, nums(own), nums(least), load)
}

// putAt is what becomes of a machine in which a value is put at an address by the last but one of its instructions.
func putAt(s api.State, a, v int) api.State {
	s.Mem = slices.Clone(s.Mem)
	s.Mem[a] = v
	return s
}

// P1502: Put stores, and goes on, where the cell is not watched.
func TestPut(t *testing.T) {
	put := ins(api.Put, hit, 0, 1, aside)
	for a := range 5 {
		for _, v := range append(edges(), 100+a) {
			s := state(1, v, a)
			want := putAt(s, a, v)
			want.Ip, want.Stack, want.Back = endIp, nums(-7, -8, v), nums(-9)
			x := trace(nums(own+1), nil, put, ins(api.Load, 0, 0, 0, aside))
			expectRun(t, "Put", x, s, want, eval.Done{Exit: end, Steps: endSteps})
			expectRun(t, "others are watched", x, s, want, eval.Done{Exit: end, Steps: endSteps}, a-1, a+1, a+1<<32, -a-1)
			if v != a {
				expectRun(t, "what is stored is watched", x, s, want, eval.Done{Exit: end, Steps: endSteps}, v)
			}
		}
	}
	for _, a := range append(edges(), 5, 6, 2999, 3000, 3001) {
		if a >= 0 && a < 5 {
			continue
		}
		expectAside(t, "at no such cell", state(1, 2, a), put)
		x, s := trace(nil, nil, put), state(1, 2, a)
		want := s
		want.Ip = asideIp
		expectRun(t, "at no such cell, that is watched", x, s, want, eval.Done{Exit: aside, Steps: asideSteps}, a)
	}
}

// P1502: behind a store into a watched cell the trace is left, whatever is stored.
func TestHit(t *testing.T) {
	x := trace(nums(1), nil, ins(api.Put, hit, 0, 1, aside), ins(api.Put, end, 1, 1, end), ins(api.Say, 0, 0, 0, aside))
	for a := range 5 {
		for _, v := range append(edges(), 100+a) {
			s := state(1, v, a)
			want := putAt(s, a, v)
			want.Ip, want.Stack, want.Back = hitIp, nums(-7, -8, a), nums(-9)
			done := eval.Done{Exit: hit, Steps: hitSteps, Hit: true}
			expectRun(t, "it alone", x, s, want, done, a)
			expectRun(t, "it too", x, s, want, done, 9, -1, a)
			expectRun(t, "it first", x, s, want, done, a, 17, 16)
			expectRun(t, "all", x, s, want, done, 4, 3, 2, 1, 0, 0)
		}
	}
	s := state(1, 2, 4)
	second := trace(nil, nil, ins(api.Put, end, 0, 1, aside), ins(api.Put, hit, 1, 1, aside), ins(api.Ask, 0, 0, 0, 0))
	want := putAt(putAt(s, 4, 2), 2, 2)
	want.Ip, want.Stack, want.Back = hitIp, nums(-7, -8, 4), nums(-9)
	expectRun(t, "the second one", second, s, want, eval.Done{Exit: hit, Steps: hitSteps, Hit: true}, 2)
	load := trace(nums(own), nums(own), ins(api.Load, 0, 0, 0, aside))
	want = s
	want.Ip, want.Stack, want.Back = endIp, nums(-7, -8, 104), nums(-9, 104)
	expectRun(t, "what is only looked at", load, s, want, eval.Done{Exit: end, Steps: endSteps}, 0, 1, 2, 3, 4)
}

// P1502: a Hit by an exit that is also the last one is one all the same.
func TestHitAtLast(t *testing.T) {
	x := trace(nums(0), nums(3), ins(api.Put, end, 0, 1, end))
	s := state(1, 2, 4)
	want := putAt(s, 4, 2)
	want.Ip, want.Stack, want.Back = endIp, nums(-7, -8, 4), nums(-9, 30)
	expectRun(t, "watched", x, s, want, eval.Done{Exit: end, Steps: endSteps, Hit: true}, 4)
	expectRun(t, "not watched", x, s, want, eval.Done{Exit: end, Steps: endSteps}, 3)
	s = state(1, 2, 5)
	want = s
	want.Ip, want.Stack, want.Back = endIp, nums(-7, -8, 5), nums(-9, 30)
	expectRun(t, "no such cell", x, s, want, eval.Done{Exit: end, Steps: endSteps}, 5)
}

// P1502: guards.
func TestGuards(t *testing.T) {
	for _, n := range edges() {
		expectGuard(t, "Must", state(1, 2, n), n != 0, ins(api.Must, 9, 0, 99, aside))
		expectGuard(t, "MustNot", state(1, 2, n), n == 0, ins(api.MustNot, 9, 0, 99, aside))
		expectGuard(t, "Same of itself", state(1, 2, n), true, ins(api.Same, 9, 0, 0, aside))
		for _, m := range edges() {
			expectGuard(t, "Same", state(1, m, n), m == n, ins(api.Same, 9, 0, 1, aside))
			expectGuard(t, "Same, the other way round", state(1, m, n), m == n, ins(api.Same, 9, 1, 0, aside))
		}
	}
}

// P1502: a guard by another exit, behind others that hold.
func TestGuardsInARow(t *testing.T) {
	x := trace(nil, nil, ins(api.Must, 0, 0, 0, aside), ins(api.MustNot, 0, 1, 0, aside), ins(api.Same, 0, 0, 2, hit))
	run := func(what string, c, b, a int, exit eval.Done) {
		t.Helper()
		_, d := eval.Run(x, state(c, b, a), 0, 1, 2)
		expect(t, what, d, exit)
	}
	run("all hold", 4, 0, 4, eval.Done{Exit: end, Steps: endSteps})
	run("the first", 0, 0, 0, eval.Done{Exit: aside})
	run("the second", 4, 1, 4, eval.Done{Exit: aside})
	run("the third", 4, 0, 5, eval.Done{Exit: hit, Steps: hitSteps})
}

// P1502: a byte, the lowest eight bits.
func TestSay(t *testing.T) {
	say := ins(api.Say, 9, 0, 99, aside)
	for n := -600; n < 600; n++ {
		s := state(1, 2, n)
		got, d := eval.Run(trace(nil, nil, say), s)
		expect(t, "Say", got.Out, "<"+string([]byte{byte(n & 255)}))
		expect(t, "Say", d, eval.Done{Exit: end, Steps: endSteps})
	}
	for _, n := range edges() {
		got, _ := eval.Run(trace(nil, nil, say, say), state(1, 2, n+'A'))
		b := string([]byte{byte((n + 'A') & 255)})
		expect(t, "Say", got.Out, "<"+b+b)
	}
	got, _ := eval.Run(trace(nil, nil, say), state(1, 2, 0x20AC))
	expect(t, "one byte, not a letter", got.Out, "<\xAC")
}

// P1502: digits, and a blank.
func TestTell(t *testing.T) {
	for _, n := range append(edges(), 7, -7, 1000, -98765) {
		got, d := eval.Run(trace(nil, nil, ins(api.Tell, 16, 0, 99, aside)), state(1, 2, n))
		expect(t, "Tell", got.Out, "<"+strconv.Itoa(n)+" ")
		expect(t, "Tell", d, eval.Done{Exit: end, Steps: endSteps})
	}
	got, _ := eval.Run(trace(nil, nil, ins(api.Tell, 0, 0, 0, aside), ins(api.Say, 0, 1, 0, aside), ins(api.Tell, 0, 2, 0, aside)), state(-1, '!', 12))
	expect(t, "in a row", got.Out, "<12 !-1 ")
}

// P1502: an output that would have more than 2000 bytes leaves the trace, and nothing of it is told.
func TestFull(t *testing.T) {
	for n := 1975; n <= 2000; n++ {
		s := state(1, 2, 'A')
		s.Out = strings.Repeat("x", n)
		full := func(what string, v, long int, i api.Ins, text string) {
			t.Helper()
			s.Stack[4] = v
			if n+long > 2000 {
				expectAside(t, what, s, i)
				return
			}
			got, d := eval.Run(trace(nil, nil, i), s)
			expect(t, what, got.Out, s.Out+text)
			expect(t, what, d, eval.Done{Exit: end, Steps: endSteps})
		}
		full("Say", 'A', 1, ins(api.Say, 0, 0, 0, aside), "A")
		full("Tell", 5, 2, ins(api.Tell, 0, 0, 0, aside), "5 ")
		full("Tell", -12, 4, ins(api.Tell, 0, 0, 0, aside), "-12 ")
		full("Tell", least, 21, ins(api.Tell, 0, 0, 0, aside), "-9223372036854775808 ")
	}
}

// P1502: what was told ahead of the exit stays; a shorter text may still be told where a longer one may not.
func TestAlmostFull(t *testing.T) {
	s := state(1, 2, 'A')
	s.Out = strings.Repeat("x", 1998)
	want := s
	want.Ip, want.Out = asideIp, s.Out+"AA"
	say := ins(api.Say, 0, 0, 0, aside)
	expectRun(t, "byte by byte", trace(nil, nil, say, say, say), s, want, eval.Done{Exit: aside})
	want.Out = s.Out + "A"
	expectRun(t, "a number behind a byte", trace(nil, nil, say, ins(api.Tell, 0, 1, 0, aside)), s, want, eval.Done{Exit: aside})
	want.Out = s.Out + "2 "
	expectRun(t, "a byte behind a number", trace(nil, nil, ins(api.Tell, 0, 1, 0, aside), say), s, want, eval.Done{Exit: aside})
}

// P1502: bytes of the input, each read once; then -1.
func TestAsk(t *testing.T) {
	ask := ins(api.Ask, 9, 9, 9, 9)
	asked := func(in string, read int, after int, values ...int) {
		t.Helper()
		s := state(1, 2, 3)
		s.In, s.Read = in, read
		want := s
		want.Ip, want.Stack, want.Back, want.Read = endIp, append(nums(-7, -8), values...), nums(-9), after
		expectRun(t, "Ask", trace(nums(own, own+1, own+2), nil, ask, ask, ask), s, want, eval.Done{Exit: end, Steps: endSteps})
	}
	asked("", 0, 0, -1, -1, -1)
	asked("a", 0, 1, 'a', -1, -1)
	asked("abc", 0, 3, 'a', 'b', 'c')
	asked("abcd", 0, 3, 'a', 'b', 'c')
	asked("abcd", 2, 4, 'c', 'd', -1)
	asked("abcd", 4, 4, -1, -1, -1)
	asked("\x00\xff\n", 0, 3, 0, 255, 10)
	asked("é!", 0, 3, 0xC3, 0xA9, '!')
}

// P1502: what lies there at an exit: the deepest cells stay, the last place comes on top.
func TestLeave(t *testing.T) {
	left := func(what string, stack, back, wantStack, wantBack []int) {
		t.Helper()
		s := state(1, 2, 3)
		want := s
		want.Ip, want.Stack, want.Back = endIp, append(nums(-7, -8), wantStack...), append(nums(-9), wantBack...)
		expectRun(t, what, trace(stack, back, ins(api.Const, 55, 0, 0, 0)), s, want, eval.Done{Exit: end, Steps: endSteps})
	}
	left("nothing", nil, nil, nil, nil)
	left("as it was", nums(2, 1, 0), nums(4, 3), nums(1, 2, 3), nums(31, 30))
	left("turned", nums(0, 1, 2), nums(3, 4), nums(3, 2, 1), nums(30, 31))
	left("changed over", nums(3), nums(0), nums(30), nums(3))
	left("again and again", nums(own, own, own, own, 0, 0, 0, own), nums(1, 1, 1, 1, 1, 1), nums(55, 55, 55, 55, 3, 3, 3, 55), nums(2, 2, 2, 2, 2, 2))
}

// P1502: at an exit in the middle lies what that exit says, with what was done ahead of it and nothing else.
func TestLeaveInTheMiddle(t *testing.T) {
	x := trace(nums(0), nums(0),
		ins(api.Ask, 0, 0, 0, 0),
		ins(api.Say, 0, own, 0, aside),
		ins(api.Put, aside, 0, own, aside),
		ins(api.Must, 0, 1, 0, 3),
		ins(api.Ask, 0, 0, 0, 0),
		ins(api.Tell, 0, own, 0, aside),
		ins(api.Put, aside, 2, own, aside),
	)
	x.Outs = append(x.Outs, api.Out{Ip: 2999, Steps: 120, Stack: nums(own, 1, own), Back: nums(own)})
	s := state(0, 0, 3)
	want := putAt(s, 3, 'y')
	want.Ip, want.Stack, want.Back = 2999, nums(-7, -8, 'y', 0, 'y'), nums(-9, 'y')
	want.Out, want.Read = "<y", 2
	expectRun(t, "left", x, s, want, eval.Done{Exit: 3, Steps: 120})
	s = state(0, 5, 3)
	want = putAt(putAt(s, 3, 'y'), 0, 'y')
	want.Ip, want.Stack, want.Back = endIp, nums(-7, -8, 3), nums(-9, 3)
	want.Out, want.Read = "<y121 ", 3
	expectRun(t, "at the end", x, s, want, eval.Done{Exit: end, Steps: endSteps})
}

// P1502: stacks that are full at the end, and those of which nothing is left.
func TestLeaveFull(t *testing.T) {
	x := api.Trace{Slots: 1, Grow: 3, Backs: 1, GrowBack: 3, Ins: []api.Ins{{Op: api.Slot}, {Op: api.Behind}}, Outs: []api.Out{
		{Steps: 1, Stack: nums(0, 1, 0, 1), Back: nums(1, 0, 1, 0)},
	}}
	s := api.State{Stack: make([]int, 45), Back: make([]int, 45)}
	s.Stack[44], s.Back[44] = 3, 4
	want := api.State{Stack: append(make([]int, 44), 3, 4, 3, 4), Back: append(make([]int, 44), 4, 3, 4, 3)}
	expectRun(t, "full", x, s, want, eval.Done{Steps: 1})
	x = api.Trace{Slots: 48, Backs: 48, Outs: []api.Out{{Steps: 1}}}
	s = api.State{Stack: make([]int, 48), Back: make([]int, 48)}
	expectRun(t, "nothing left", x, s, api.State{}, eval.Done{Steps: 1})
}

// P1502: as many instructions and exits as there may be.
func TestGreatest(t *testing.T) {
	x := api.Trace{Slots: 1, Ins: []api.Ins{{Op: api.Slot}}, Outs: make([]api.Out, 300), Last: 299}
	for at := 1; at < 1000; at++ {
		x.Ins = append(x.Ins, ins(api.Calc, api.Add, at-1, 0, 0))
	}
	x.Outs[299] = api.Out{Steps: 120, Ip: 2999, Stack: nums(999)}
	expectRun(t, "the greatest", x, api.State{Stack: nums(3)}, api.State{Ip: 2999, Stack: nums(3000)}, eval.Done{Exit: 299, Steps: 120})
}
