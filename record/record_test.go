package record_test

import (
	"math"
	"slices"
	"strings"
	"testing"

	"holloway/api"
	"holloway/inner"
	"holloway/op"
	"holloway/record"
)

const (
	least    = math.MinInt
	greatest = math.MaxInt
	code     = 200 // where the code of these tests lies
)

// seen makes a step that was recorded.
func seen(ip, cell, arg, next int) api.Seen {
	return api.Seen{Ip: ip, Cell: cell, Arg: arg, Next: next}
}

// nums makes a list.
func nums(l ...int) []int { return l }

// at makes a machine of so many cells that runs some code from a place on.
func at(size, ip int, stack, back []int, cells ...int) api.State {
	s := inner.Boot(size, "in")
	copy(s.Mem[ip:], cells)
	s.Ip, s.Status, s.Stack, s.Back = ip, api.Running, stack, back
	return s
}

// machine makes one of 300 cells.
func machine(stack, back []int, cells ...int) api.State { return at(300, code, stack, back, cells...) }

// expect holds a recording against what is wanted; it may be, whatever it is.
func expect(t *testing.T, what string, got, want api.Recording) {
	t.Helper()
	if got.Start != want.Start || got.End != want.End || got.Loop != want.Loop || !slices.Equal(got.Steps, want.Steps) {
		t.Errorf("%s: %v, not %v", what, got, want)
	}
	if !record.Right(got) {
		t.Errorf("%s: %v isn't right", what, got)
	}
}

// expectIps holds a recording against where its steps are to be; the last number is where it is to end.
func expectIps(t *testing.T, what string, got api.Recording, loop bool, ips ...int) {
	t.Helper()
	var places []int
	for _, x := range got.Steps {
		places = append(places, x.Ip)
	}
	if places = append(places, got.End); !slices.Equal(places, ips) || got.Loop != loop {
		t.Errorf("%s: %v, %t, not %v, %t", what, places, got.Loop, ips, loop)
	}
	if got.Start != places[0] || !record.Right(got) {
		t.Errorf("%s: %v isn't right", what, got)
	}
}

// expectSame holds a state against what is wanted; lists that are nil and empty are alike.
func expectSame(t *testing.T, what string, a, b api.State) {
	t.Helper()
	if a.Ip != b.Ip || a.Handler != b.Handler || a.Out != b.Out || a.In != b.In || a.Read != b.Read || a.Status != b.Status || a.Code != b.Code ||
		!slices.Equal(a.Stack, b.Stack) || !slices.Equal(a.Back, b.Back) || !slices.Equal(a.Mem, b.Mem) {
		t.Errorf("%s: at %d, %v, %v, not at %d, %v, %v", what, a.Ip, a.Stack, a.Back, b.Ip, b.Stack, b.Back)
	}
}

func expectIs[T comparable](t *testing.T, what string, got, want T) {
	t.Helper()
	if got != want {
		t.Errorf("%s: %v, not %v", what, got, want)
	}
}

// P1301: the chapter's example.
func TestLoopExample(t *testing.T) {
	expect(t, "three steps that go round", record.Loop(machine(nums(1), nil, api.Dup, api.Drop, api.Branch, code), 9), api.Recording{
		Start: 200, End: 200, Loop: true,
		Steps: []api.Seen{seen(200, api.Dup, 0, 201), seen(201, api.Drop, 0, 202), seen(202, api.Branch, 200, 200)},
	})
}

// P1301: each step as it was: calls too, and branches and loops that go on and that do not.
func TestLoopSteps(t *testing.T) {
	s := machine(nums(7), nums(2, 0), api.Lit, -3, 220, api.Loop, 200, api.Branch, 200)
	copy(s.Mem[220:], nums(api.Add, api.Dup, api.Zero, 229, api.Exit))
	round := []api.Seen{
		seen(200, api.Lit, -3, 202), seen(202, 220, 0, 220), seen(220, api.Add, 0, 221), seen(221, api.Dup, 0, 222),
		seen(222, api.Zero, 229, 224), seen(224, api.Exit, 0, 203), seen(203, api.Loop, 200, 200),
	}
	expect(t, "a round", record.Loop(s, 99), api.Recording{Start: 200, End: 200, Loop: true, Steps: round})

	s.Back = nums(1, 0)
	last := append(slices.Clone(round[:6]), seen(203, api.Loop, 200, 205), seen(205, api.Branch, 200, 200))
	expect(t, "the last round", record.Loop(s, 99), api.Recording{Start: 200, End: 200, Loop: true, Steps: last})

	s.Stack = nums(3)
	gone := append(slices.Clone(round[:4]), seen(222, api.Zero, 229, 229))
	expect(t, "away", record.Loop(s, 99), api.Recording{Start: 200, End: 229, Steps: gone})
}

// P1301: operands are told as they are, whether they lead somewhere or not.
func TestLoopArgs(t *testing.T) {
	s := machine(nums(5), nums(6, 5), api.Lit, 0, api.Lit, least, api.Zero, greatest, api.Loop, -1, api.Nop)
	expect(t, "args", record.Loop(s, 99), api.Recording{Start: 200, End: 209, Steps: []api.Seen{
		seen(200, api.Lit, 0, 202), seen(202, api.Lit, least, 204), seen(204, api.Zero, greatest, 206), seen(206, api.Loop, -1, 208), seen(208, api.Nop, 0, 209),
	}})
}

// P1301: each operation alone: just the plain ones are recorded, with operands where they have one.
func TestLoopEachOperation(t *testing.T) {
	for o := range api.Ops {
		for _, top := range nums(0, 210) {
			s := machine(nums(7, 8, 210, top), nums(5, 9, 230), o, 240)
			want := api.Recording{Start: 200, End: 200}
			next := inner.Step(s)
			if op.Plain(o) && next.Status == api.Running {
				want.End = next.Ip
				want.Steps = []api.Seen{{Ip: 200, Cell: o, Next: next.Ip}}
				if op.Arg(o) {
					want.Steps[0].Arg = 240
				}
			}
			expect(t, op.Name(o), record.Loop(s, 1), want)
			expectIs(t, op.Name(o)+" is recorded, where nothing is 0", top == 0 || len(want.Steps) == 1 || !op.Plain(o), true)
		}
	}
	for _, o := range nums(api.Halt, api.EndCatch, api.Throw, api.Catch) {
		s := machine(nums(0), nums(210, 0, 0), o)
		s.Handler = 3
		expectIps(t, op.Name(o), record.Loop(s, 9), false, 200)
	}
}

// P1301: what is no operation and no call ends it.
func TestLoopNoWord(t *testing.T) {
	cells := nums(least, -1<<32+api.Dup, -api.Dup, -1)
	for c := api.Ops; c < api.First; c++ {
		cells = append(cells, c)
	}
	for _, c := range cells {
		s := machine(nums(1, 2, 3), nums(201, 0, 1), api.Nop, c, api.Nop)
		expectIps(t, "no word", record.Loop(s, 9), false, 200, 201)
		s.Handler = 3
		expectIps(t, "no word, caught", record.Loop(s, 9), false, 200, 201)
	}
}

// full is a stack, or a return stack, that has no room for n more.
func full(n int) []int { return make([]int, api.MaxStack-n+1) }

// faults are machines whose step is a fault, but plain, where nothing catches it.
func faults() map[string]api.State {
	l := map[string]api.State{
		"no cell":       at(300, 299, nil, nil),
		"no operand":    at(300, 299, nums(1), nums(8, 1), api.Lit),
		"under":         machine(nums(1), nil, api.Add),
		"back under":    machine(nil, nums(1), api.Unloop),
		"over":          machine(full(1), nil, api.Lit, 9),
		"over by dup":   machine(full(1), nil, api.Dup),
		"back over":     machine(nums(1), full(1), api.ToBack),
		"do":            machine(nums(1, 2), full(2), api.Do),
		"call":          machine(nil, full(1), 210),
		"execute":       machine(nums(210), full(1), api.Execute),
		"div":           machine(nums(1, 0), nil, api.Div),
		"mod":           machine(nums(1, 0), nil, api.Mod),
		"fetch":         machine(nums(300), nil, api.Fetch),
		"fetch below":   machine(nums(-1), nil, api.Fetch),
		"store":         machine(nums(1, 300), nil, api.Store),
		"add to":        machine(nums(1, least), nil, api.AddTo),
		"no word":       machine(nums(63), nil, api.Execute),
		"no word there": machine(nums(300), nil, api.Execute),
		"emit":          machine(nums(1), nil, api.Emit),
		"dot":           machine(nums(1), nil, api.Dot),
	}
	for what, s := range l {
		switch what {
		case "no cell":
			s.Ip = 300
		case "emit":
			s.Out = strings.Repeat("x", api.MaxOut)
		case "dot":
			s.Out = strings.Repeat("x", api.MaxOut-1)
		}
		l[what] = s
	}
	return l
}

// P1301: a step that would be a fault ends it, also where a Catch would go on right behind it.
func TestLoopFaults(t *testing.T) {
	for what, s := range faults() {
		expectIs(t, what+" is a fault", inner.Step(s).Status, api.Thrown)
		expectIps(t, what, record.Loop(s, 9), false, s.Ip)
		s.Handler = 99
		expectIps(t, what+", with a handler that is none", record.Loop(s, 9), false, s.Ip)
		if what == "back under" { // of three cells, which a Catch has laid, no operation has too few
			continue
		}
		s.Back = append(nums(s.Ip+1, 0, 2), s.Back[:min(len(s.Back), api.MaxBack-3)]...)
		s.Handler = 3
		expectIs(t, what+" is caught", inner.Step(s).Status, api.Running)
		expectIps(t, what+", caught", record.Loop(s, 9), false, s.Ip)
		s.Mem[100], s.Mem[101], s.Mem[102] = api.Nop, api.Branch, s.Ip
		s.Ip = 100
		expectIps(t, what+", caught, later", record.Loop(s, 9), false, 100, 101, s.Mem[102])
	}
}

// P1301: a Catch that holds nothing up is not to be seen: a loop below it is one.
func TestLoopBelowCatch(t *testing.T) {
	s := machine(nums(1), nums(210, 0, 1), api.Dup, api.Drop, api.Branch, code)
	want := record.Loop(s, 9)
	for _, handler := range nums(3, 0, 1, 99, -1, least, greatest) {
		s.Handler = handler
		got := record.Loop(s, 9)
		expect(t, "with a handler", got, want)
		expectIs(t, "Loop", got.Loop, true)
		expectIs(t, "the handler stays", record.After(s, got).Handler, handler)
	}
}

// P1301: a step that would lead to what is no place ends it; where there is no cell in this memory the next one does.
func TestLoopLeadsAway(t *testing.T) {
	for _, to := range nums(least, -1<<32, -1, 0, 1, 63, 64, 299, 300, 2999, 3000, 3001, 1<<32, greatest) {
		for what, s := range map[string]api.State{
			"exit":      machine(nil, nums(to), api.Exit),
			"branch":    machine(nil, nil, api.Branch, to),
			"zero":      machine(nums(0), nil, api.Zero, to),
			"loop":      machine(nil, nums(9, 1), api.Loop, to),
			"plus loop": machine(nums(2), nums(9, 1), api.PlusLoop, to),
		} {
			if to >= 0 && to <= 2999 {
				expectIps(t, what, record.Loop(s, 1), false, 200, to)
			} else {
				expectIps(t, what, record.Loop(s, 1), false, 200)
			}
		}
	}
	for _, to := range nums(64, 65, 299, 300, 2999) {
		expectIps(t, "call", record.Loop(machine(nil, nil, to), 1), false, 200, to)
	}
	for _, to := range nums(3000, 3001, 1<<32, greatest) {
		expectIps(t, "call", record.Loop(machine(nil, nil, to), 1), false, 200)
	}
	expectIps(t, "execute", record.Loop(at(3000, code, nums(2999), nil, api.Execute), 1), false, 200, 2999)
}

// P1301: at the end of the memory, and of all that may be.
func TestLoopAtTheEnd(t *testing.T) {
	word := api.First + 2*api.Nop
	for what, c := range map[string]struct {
		s   api.State
		ips []int
	}{
		"nop at the end of a small memory": {at(300, 299, nil, nil, api.Nop), nums(299, 300)},
		"lit at the end of a small memory": {at(300, 298, nil, nil, api.Lit, 5), nums(298, 300)},
		"nop at 2998":                      {at(3000, 2998, nil, nil, api.Nop, api.Nop), nums(2998, 2999)},
		"nop at 2999":                      {at(3000, 2999, nil, nil, api.Nop), nums(2999)},
		"lit at 2997":                      {at(3000, 2997, nil, nil, api.Lit, 1), nums(2997, 2999)},
		"lit at 2998":                      {at(3000, 2998, nil, nil, api.Lit, 1), nums(2998)},
		"lit at 2999":                      {at(3000, 2999, nil, nil, api.Lit), nums(2999)},
		"branch at 2998":                   {at(3000, 2998, nil, nil, api.Branch, 0), nums(2998, 0)},
		"branch at 2998 to itself":         {at(3000, 2998, nil, nil, api.Branch, 2998), nums(2998, 2998)},
		"exit at 2999":                     {at(3000, 2999, nil, nums(0), api.Exit), nums(2999, 0)},
		"call at 2999, which can't return": {at(3000, 2999, nil, nil, word), nums(2999, word, word+1)},
		"no memory":                        {at(0, 0, nil, nil), nums(0)},
		"one cell":                         {at(1, 0, nil, nil, api.Nop), nums(0, 1)},
	} {
		loop := len(c.ips) > 1 && c.ips[0] == c.ips[len(c.ips)-1]
		expectIps(t, what, record.Loop(c.s, 9), loop, c.ips...)
	}
}

// P1301: where there is no cell nothing is recorded, and it ends where it began.
func TestLoopNowhere(t *testing.T) {
	for _, ip := range nums(least, -5, -1, 300, 2999, 3000, greatest-1, greatest) {
		s := machine(nums(1), nums(1))
		s.Ip = ip
		expectIps(t, "nowhere", record.Loop(s, 9), false, ip)
	}
}

// P1301: what does not run is not recorded.
func TestLoopNotRunning(t *testing.T) {
	for _, status := range nums(api.Done, api.Thrown) {
		s := machine(nums(1), nil, api.Nop, api.Branch, code)
		s.Status = status
		expectIps(t, "not running", record.Loop(s, 9), false, 200)
	}
	s := machine(nums(1), nil, api.Nop, api.Branch, code)
	s.Code = api.ByZero
	expectIps(t, "a code that is left", record.Loop(s, 9), true, 200, 201, 200)
}

// P1301: at most as many steps as are asked for, and as may be; a loop of just so many is one.
func TestLoopMost(t *testing.T) {
	long := at(3000, code, nil, nil)
	for a := code; a < 3000; a++ {
		long.Mem[a] = api.Nop
	}
	for most := -3; most <= 130; most++ {
		steps := min(max(most, 0), 120)
		got := record.Loop(long, most)
		expectIs(t, "steps", len(got.Steps), steps)
		expectIs(t, "End", got.End, code+steps)
		expectIs(t, "Loop", got.Loop, false)
		expectIs(t, "Right", record.Right(got), true)
	}
	expectIs(t, "least", len(record.Loop(long, least).Steps), 0)
	expectIs(t, "greatest", len(record.Loop(long, greatest).Steps), 120)
	for _, size := range nums(1, 2, 3, 50, 119, 120, 121, 122) {
		s := long
		s.Mem = slices.Clone(long.Mem)
		copy(s.Mem[code+size-1:], nums(api.Branch, code))
		for _, most := range nums(0, size-1, size, size+1, 120, 500) {
			got := record.Loop(s, most)
			round := most >= size && size <= 120
			expectIs(t, "Loop", got.Loop, round)
			expectIs(t, "steps of a loop", len(got.Steps), min(most, size, 120))
			expectIs(t, "End of a loop", got.End == code, round || most == 0)
			expectIs(t, "Right", record.Right(got), true)
		}
	}
}

// P1301: of one step: what leads to itself.
func TestLoopOfOne(t *testing.T) {
	for what, s := range map[string]api.State{
		"branch":    machine(nil, nil, api.Branch, 200),
		"zero":      machine(nums(0), nil, api.Zero, 200),
		"exit":      machine(nil, nums(200), api.Exit),
		"call":      machine(nil, nil, 200),
		"execute":   machine(nums(200), nil, api.Execute),
		"loop":      machine(nil, nums(9, 1), api.Loop, 200),
		"plus loop": machine(nums(0), nums(9, 9), api.PlusLoop, 200),
	} {
		expectIps(t, what, record.Loop(s, 9), true, 200, 200)
		expectIps(t, what+", one at most", record.Loop(s, 1), true, 200, 200)
		expectIps(t, what+", none at most", record.Loop(s, 0), false, 200)
	}
}

// P1301: what goes round elsewhere than where it began does not end it.
func TestLoopInner(t *testing.T) {
	s := machine(nil, nums(3, 0), api.Nop, api.Nop, api.Loop, 201, api.Branch, 200)
	expectIps(t, "from without", record.Loop(s, 99), true, 200, 201, 202, 201, 202, 201, 202, 204, 200)
	expectIps(t, "cut", record.Loop(s, 5), false, 200, 201, 202, 201, 202, 201)
	s.Ip = 201
	expectIps(t, "from within", record.Loop(s, 99), true, 201, 202, 201)
	s.Mem[204], s.Mem[205] = api.Nop, api.Halt
	s.Ip = 200
	expectIps(t, "no way back", record.Loop(s, 99), false, 200, 201, 202, 201, 202, 201, 202, 204, 205)
}

// P1301: each cell as it was when its step was done, whatever is stored there.
func TestLoopOwnCode(t *testing.T) {
	ahead := machine(nums(1, api.Drop, 203), nil, api.Nop, api.Store, api.Nop, api.Halt, api.Halt)
	expect(t, "stored ahead", record.Loop(ahead, 9), api.Recording{Start: 200, End: 204, Steps: []api.Seen{
		seen(200, api.Nop, 0, 201), seen(201, api.Store, 0, 202), seen(202, api.Nop, 0, 203), seen(203, api.Drop, 0, 204),
	}})
	behind := machine(nums(-1, 201), nil, api.Lit, 7, api.Drop, api.AddTo, api.Lit, 5, api.Branch, 200)
	got := record.Loop(behind, 9)
	expectIps(t, "stored behind", got, true, 200, 202, 203, 204, 206, 200)
	expectIs(t, "the operand as it was", got.Steps[0].Arg, 7)
	expectIs(t, "the operand as it is", record.After(behind, got).Mem[201], 6)
	itself := machine(nums(-1, 200), nil, api.Store, api.Halt)
	expect(t, "the cell of the step itself", record.Loop(itself, 9), api.Recording{Start: 200, End: 201, Steps: []api.Seen{seen(200, api.Store, 0, 201)}})
}

// P1301: what is told and asked meanwhile counts for later steps.
func TestLoopTellsAndAsks(t *testing.T) {
	s := machine(nil, nil, api.Key, api.IsNeg, api.Zero, 200, api.Halt)
	expectIps(t, "a byte", record.Loop(s, 9), true, 200, 201, 202, 200)
	s.Read = 2
	expectIps(t, "no byte", record.Loop(s, 9), false, 200, 201, 202, 204)
	s = machine(nums(1, 1, 1, 1), nil, api.Emit, api.Emit, api.Emit, api.Emit, api.Halt)
	s.Out = strings.Repeat("x", api.MaxOut-2)
	expectIps(t, "till it is full", record.Loop(s, 9), false, 200, 201, 202)
}

// P1301: the state stays as it is, and no answer shares anything with it, or with another one.
func TestLoopLeavesAll(t *testing.T) {
	fresh := func() api.State {
		// Behind the cells of both stacks there is room, into which nobody may write either.
		s := machine(nums(9, 4, 250, 0)[:3], nums(3, 0, 0)[:2], api.Dup, api.Drop, api.Store, api.Lit, 9, api.Drop, api.Loop, 200)
		s.Handler, s.Out = 2, "out"
		return s
	}
	s := fresh()
	first := record.Loop(s, 9)
	expectIs(t, "steps", len(first.Steps), 6)
	expectSame(t, "the state", s, fresh())
	second := record.Loop(s, 9)
	for i := range first.Steps {
		first.Steps[i] = api.Seen{}
	}
	first.Steps = append(first.Steps[:0], api.Seen{Ip: 1})
	expectIs(t, "another answer", second.Steps[0], api.Seen{Ip: 200, Cell: api.Dup, Next: 201})
	expectSame(t, "the state", s, fresh())
	expectIs(t, "behind the stack", s.Stack[:4][3], 0)
	expectIs(t, "behind the return stack", s.Back[:3][2], 0)
}

// P1301: of states that are not right nothing is promised but that it ends, and what comes of it may be.
func TestLoopOfWrongStates(t *testing.T) {
	for what, change := range map[string]func(s *api.State){
		"stack":  func(s *api.State) { s.Stack = full(0) },
		"back":   func(s *api.State) { s.Back = full(0) },
		"mem":    func(s *api.State) { s.Mem = append(s.Mem, make([]int, 3000)...); s.Ip = 3100 },
		"out":    func(s *api.State) { s.Out = strings.Repeat("x", api.MaxOut+1) },
		"read":   func(s *api.State) { s.Read = 9 },
		"below":  func(s *api.State) { s.Read = -1 },
		"status": func(s *api.State) { s.Status = 3 },
	} {
		s := machine(nums(1), nil, api.Dup, api.Key, api.Branch, code)
		change(&s)
		expect(t, what, record.Loop(s, 9), api.Recording{})
		record.After(s, api.Recording{Steps: make([]api.Seen, 9)})
	}
	expect(t, "a zero state", record.Loop(api.State{}, 9), api.Recording{})
}
