package inner_test

import (
	"fmt"
	"math"
	"slices"
	"strings"
	"testing"

	"holloway/api"
	"holloway/inner"
)

const (
	least    = math.MinInt
	greatest = math.MaxInt
	code     = 200 // where the code of these tests lies
)

// text tells a state but for its memory.
func text(s api.State) string {
	cell := any("none")
	if s.Ip >= 0 && s.Ip < len(s.Mem) {
		cell = s.Mem[s.Ip]
	}
	return fmt.Sprintf("{at %d: %v, handler %d, stack %v, back %v, %d bytes of out, %d of %q read, status %d, code %d, %d cells}",
		s.Ip, cell, s.Handler, s.Stack, s.Back, len(s.Out), s.Read, s.In, s.Status, s.Code, len(s.Mem))
}

// alike tells whether states are; lists that are nil and empty are.
func alike(a, b api.State) bool {
	return a.Ip == b.Ip && a.Handler == b.Handler && a.Out == b.Out && a.In == b.In && a.Read == b.Read && a.Status == b.Status && a.Code == b.Code &&
		slices.Equal(a.Stack, b.Stack) && slices.Equal(a.Back, b.Back) && slices.Equal(a.Mem, b.Mem)
}

// expect holds a state against what is wanted.
func expect(t *testing.T, what string, got, want api.State) {
	t.Helper()
	if alike(got, want) {
		return
	}
	t.Errorf("%s:\n%s, not\n%s", what, text(got), text(want))
	for a := range min(len(got.Mem), len(want.Mem)) {
		if got.Mem[a] != want.Mem[a] {
			t.Errorf("the cell %d is %d, not %d", a, got.Mem[a], want.Mem[a])
			return
		}
	}
}

// nums makes a list.
func nums(l ...int) []int { return l }

// list makes the cells 101, 102 .., n of them.
func list(n int) []int {
	l := make([]int, n)
	for i := range l {
		l[i] = 101 + i
	}
	return l
}

// machine makes one that runs some code, in 300 cells.
func machine(stack, back []int, cells ...int) api.State {
	s := inner.Boot(300, "in")
	copy(s.Mem[code:], cells)
	s.Ip, s.Status, s.Stack, s.Back = code, api.Running, stack, back
	return s
}

// with tells a state that was changed a bit.
func with(s api.State, change func(s *api.State)) api.State {
	s = copied(s).State
	change(&s)
	return s
}

// thrown tells a state that met a fault which nothing catches.
func thrown(s api.State, c int) api.State {
	return with(s, func(s *api.State) { s.Status, s.Code = api.Thrown, c })
}

// expectStep holds a step against a change of the state.
func expectStep(t *testing.T, what string, s api.State, change func(s *api.State)) {
	t.Helper()
	expect(t, what, inner.Step(s), with(s, change))
}

// expectFault holds a step against a fault that leaves all as it is.
func expectFault(t *testing.T, what string, s api.State, c int) {
	t.Helper()
	expect(t, what, inner.Step(s), thrown(s, c))
}

// P902, P903: the chapter's example.
func TestExample(t *testing.T) {
	s := inner.Boot(300, "")
	copy(s.Mem[192:], nums(api.Lit, 3, api.Dup, api.Mul, api.Exit))
	got, left := inner.Run(inner.Enter(s, 192), 99)
	if left != 94 {
		t.Errorf("%d left, not 94", left)
	}
	expect(t, "example", got, with(s, func(s *api.State) { s.Stack = nums(9) }))
}

// P901: a machine of each size; what lies at which address is told one by one.
func TestBoot(t *testing.T) {
	sizes := []int{least, -1 << 32, -1, 2999, 3000, 3001, 6000, 1 << 32, greatest}
	for n := range 300 {
		sizes = append(sizes, n)
	}
	for _, n := range sizes {
		want := api.State{In: "x\x00y", Status: api.Done}
		for a := range min(max(n, 0), 3000) {
			c := 0
			switch {
			case a == 1:
				c = api.EndCatch
			case a >= 64 && a < 160 && a%2 == 0:
				c = (a - 64) / 2
			case a >= 64 && a < 160:
				c = api.Exit
			}
			want.Mem = append(want.Mem, c)
		}
		expect(t, fmt.Sprintf("Boot(%d)", n), inner.Boot(n, "x\x00y"), want)
	}
	long := strings.Repeat("in ", 100_000)
	if s := inner.Boot(5, long); s.In != long || !inner.Right(s) {
		t.Error("Boot: of a long text")
	}
}

// P901: each operation is a word that can be called, and comes back.
func TestBootWords(t *testing.T) {
	s := machine(nums(6, 3), nil, 64+2*api.Mul, 64+2*api.Dup, 64+2*api.Dot, api.Halt)
	got, left := inner.Run(s, 100)
	if left != 90 || got.Out != "18 " || got.Status != api.Done || got.Ip != code+3 || !slices.Equal(got.Stack, nums(18)) || len(got.Back) != 0 {
		t.Errorf("called: %s, %d left", text(got), left)
	}
}

// P901: what is entered runs from there on, and comes back to the cell 0; the stack, memory, in and out stay.
func TestEnter(t *testing.T) {
	for status := range 3 {
		for _, xt := range nums(least, -1, 0, 1, 63, 64, code, 299, 300, greatest) {
			s := machine(nums(5, 6), list(7))
			s.Status, s.Code, s.Handler, s.Out, s.Read = status, -9, 4, "out", 1
			before := copied(s).State
			expect(t, "Enter", inner.Enter(s, xt), with(s, func(s *api.State) {
				s.Ip, s.Back, s.Handler, s.Code, s.Status = xt, nums(0), 0, 0, api.Running
			}))
			expect(t, "what was handed in", s, before)
		}
	}
	expect(t, "Enter of a zero state", inner.Enter(api.State{}, 64), api.State{Ip: 64, Back: nums(0)})
}

// P901: a copy is alike, whatever the state.
func TestCopy(t *testing.T) {
	for _, s := range append(wrongs(), api.State{}, inner.Boot(0, ""), inner.Boot(3000, "in"), machine(list(48), list(48), 1, 2, 3)) {
		expect(t, "Copy", inner.Copy(s), s)
	}
}

// wrongs are states that may not be, each for another reason.
func wrongs() []api.State {
	var l []api.State
	for _, change := range []func(s *api.State){
		func(s *api.State) { s.Stack = list(49) },
		func(s *api.State) { s.Stack = list(5000) },
		func(s *api.State) { s.Back = list(49) },
		func(s *api.State) { s.Back = list(5000) },
		func(s *api.State) { s.Mem = make([]int, 3001) },
		func(s *api.State) { s.Mem = make([]int, 10_000) },
		func(s *api.State) { s.Out = strings.Repeat("x", 2001) },
		func(s *api.State) { s.Out = strings.Repeat("x", 10_000) },
		func(s *api.State) { s.Read = -1 },
		func(s *api.State) { s.Read = least },
		func(s *api.State) { s.Read = 3 },
		func(s *api.State) { s.Read = greatest },
		func(s *api.State) { s.In, s.Read = "", 1 },
		func(s *api.State) { s.Status = -1 },
		func(s *api.State) { s.Status = 3 },
		func(s *api.State) { s.Status = least },
		func(s *api.State) { s.Status = greatest },
	} {
		l = append(l, with(machine(nums(1, 2, 3), nums(4, 5, 6)), change))
	}
	return l
}

// P901 (Words): which states are right, to each limit.
func TestRight(t *testing.T) {
	for i, s := range wrongs() {
		if inner.Right(s) {
			t.Errorf("Right of the wrong state %d: %s", i, text(s))
		}
	}
	for _, change := range []func(s *api.State){
		func(s *api.State) {},
		func(s *api.State) { s.Stack = list(48) },
		func(s *api.State) { s.Back = list(48) },
		func(s *api.State) { s.Mem = make([]int, 3000) },
		func(s *api.State) { s.Mem = nil },
		func(s *api.State) { s.Out = strings.Repeat("x", 2000) },
		func(s *api.State) { s.Read = 2 },
		func(s *api.State) { s.In = strings.Repeat("x", 5000); s.Read = 5000 },
		func(s *api.State) { s.Status = api.Done },
		func(s *api.State) { s.Status = api.Thrown },
		func(s *api.State) { s.Ip, s.Handler, s.Code = least, least, least },
		func(s *api.State) { s.Ip, s.Handler, s.Code = greatest, greatest, greatest },
		func(s *api.State) { *s = api.State{} },
	} {
		if s := with(machine(nums(1, 2, 3), nums(4, 5, 6)), change); !inner.Right(s) {
			t.Errorf("not Right: %s", text(s))
		}
	}
}

// spoil writes into all lists of a state, and behind them.
func spoil(s api.State) {
	for _, l := range [][]int{s.Stack, s.Back, s.Mem} {
		for i := range l {
			l[i] = 77
		}
		_ = append(l, 78)
	}
}

// P901: no list of an answer is one of what was handed in, or of another answer; what was handed in is as it was.
func TestAnswersAreNew(t *testing.T) {
	sources := []api.State{
		machine(list(5), nums(70, 80, 2, 9), api.Nop),
		with(machine(nums(5, 280), nums(70, 80, 2, 9), api.Store), func(s *api.State) { s.Handler = 3 }),
		with(machine(list(5), nums(70, 80, 2, 9), -1), func(s *api.State) { s.Handler = 3 }),
		with(machine(list(5), list(5), api.Nop), func(s *api.State) { s.Status = api.Done }),
		with(machine(list(5), list(5), api.Nop), func(s *api.State) { s.Status = api.Thrown }),
	}
	calls := map[string]func(s api.State) api.State{
		"Step":       inner.Step,
		"Run":        func(s api.State) api.State { s, _ = inner.Run(s, 3); return s },
		"Run of 0":   func(s api.State) api.State { s, _ = inner.Run(s, 0); return s },
		"Run of -1":  func(s api.State) api.State { s, _ = inner.Run(s, -1); return s },
		"Enter":      func(s api.State) api.State { return inner.Enter(s, 64) },
		"Fault":      func(s api.State) api.State { return inner.Fault(s, -9) },
		"Copy":       inner.Copy,
		"Boot again": func(api.State) api.State { return inner.Boot(300, "") },
	}
	for what, call := range calls {
		for _, s := range sources {
			// There is room behind these lists, into which nothing may be written, either.
			roomy := with(s, func(s *api.State) {
				s.Stack, s.Back, s.Mem = append(s.Stack, list(60)...), append(s.Back, list(60)...), append(s.Mem, list(60)...)
			})
			before := copied(roomy).State
			given := s
			given.Stack, given.Back, given.Mem = roomy.Stack[:len(s.Stack)], roomy.Back[:len(s.Back)], roomy.Mem[:len(s.Mem)]
			one := call(given)
			want, other := copied(one).State, call(given)
			spoil(one)
			expect(t, what+": what was handed in", roomy, before)
			expect(t, what+": another answer", other, want)
			spoil(given)
			expect(t, what+": what was handed in changed", other, want)
		}
	}
}

// P902: what only lays cells elsewhere, or reckons with them; deeper ones stay.
func TestMovesAndSums(t *testing.T) {
	for _, x := range []struct {
		op                int
		stack, back       []int
		behind, backAfter []int
	}{
		{api.Nop, nums(1, 2), nums(8, 9), nums(1, 2), nums(8, 9)},
		{api.Dup, nums(1, 2), nums(9), nums(1, 2, 2), nums(9)},
		{api.Drop, nums(1, 2), nums(9), nums(1), nums(9)},
		{api.Swap, nums(1, 2, 3), nums(9), nums(1, 3, 2), nums(9)},
		{api.Copy, nums(1, 2, 3), nums(9), nums(1, 2, 3, 2), nums(9)},
		{api.Rot, nums(1, 2, 3, 4), nums(9), nums(1, 3, 4, 2), nums(9)},
		{api.Add, nums(1, greatest, 2), nil, nums(1, least+1), nil},
		{api.Sub, nums(1, 10, 3), nil, nums(1, 7), nil},
		{api.Mul, nums(1, -4, 3), nil, nums(1, -12), nil},
		{api.Div, nums(1, -7, 2), nil, nums(1, -4), nil},
		{api.Div, nums(1, least, -1), nil, nums(1, least), nil},
		{api.Mod, nums(1, -7, 2), nil, nums(1, 1), nil},
		{api.Mod, nums(1, 7, -2), nil, nums(1, -1), nil},
		{api.And, nums(1, 12, 10), nil, nums(1, 8), nil},
		{api.Or, nums(1, 12, 10), nil, nums(1, 14), nil},
		{api.Xor, nums(1, 12, 10), nil, nums(1, 6), nil},
		{api.Left, nums(1, 3, 2), nil, nums(1, 12), nil},
		{api.Left, nums(1, 3, 64), nil, nums(1, 0), nil},
		{api.Right, nums(1, -1, 63), nil, nums(1, 1), nil},
		{api.Equal, nums(1, 3, 3), nil, nums(1, -1), nil},
		{api.Less, nums(1, 2, 3), nil, nums(1, -1), nil},
		{api.Less, nums(1, 3, 2), nil, nums(1, 0), nil},
		{api.ULess, nums(1, 2, -3), nil, nums(1, -1), nil},
		{api.ULess, nums(1, -3, 2), nil, nums(1, 0), nil},
		{api.Min, nums(1, 2, -3), nil, nums(1, -3), nil},
		{api.Max, nums(1, 2, -3), nil, nums(1, 2), nil},
		{api.Negate, nums(1, 5), nil, nums(1, -5), nil},
		{api.Invert, nums(1, 5), nil, nums(1, -6), nil},
		{api.IsZero, nums(1, 0), nil, nums(1, -1), nil},
		{api.IsZero, nums(1, 5), nil, nums(1, 0), nil},
		{api.IsNeg, nums(1, -5), nil, nums(1, -1), nil},
		{api.IsNeg, nums(1, 0), nil, nums(1, 0), nil},
		{api.ToBack, nums(1, 2), nums(9), nums(1), nums(9, 2)},
		{api.FromBack, nums(1, 2), nums(8, 9), nums(1, 2, 9), nums(8)},
		{api.AtBack, nums(1, 2), nums(8, 9), nums(1, 2, 9), nums(8, 9)},
		{api.Do, nums(1, 5, 0), nums(9), nums(1), nums(9, 5, 0)},
		{api.J, nums(1), nums(6, 7, 8, 9), nums(1, 7), nums(6, 7, 8, 9)},
		{api.Unloop, nums(1), nums(7, 8, 9), nums(1), nums(7)},
	} {
		expectStep(t, fmt.Sprintf("operation %d of %v, %v", x.op, x.stack, x.back), machine(x.stack, x.back, x.op), func(s *api.State) {
			s.Ip, s.Stack, s.Back = code+1, x.behind, x.backAfter
		})
	}
}

// P902: what says where the machine goes on; where to is not looked at.
func TestTurns(t *testing.T) {
	stack, back := nums(1, 2), nums(8, 9)
	for _, to := range nums(least, -1, 0, 1, 5, 63, 64, code, code+1, code+2, 299, 300, greatest) {
		what := fmt.Sprintf("to %d: ", to)
		expectStep(t, what+"Lit", machine(stack, back, api.Lit, to), func(s *api.State) { s.Ip, s.Stack = code+2, nums(1, 2, to) })
		expectStep(t, what+"Branch", machine(stack, back, api.Branch, to), func(s *api.State) { s.Ip = to })
		expectStep(t, what+"Zero of 0", machine(nums(1, 0), back, api.Zero, to), func(s *api.State) { s.Ip, s.Stack = to, nums(1) })
		for _, v := range nums(least, -1, 1, 1<<32, greatest) {
			expectStep(t, what+"Zero", machine(nums(0, v), back, api.Zero, to), func(s *api.State) { s.Ip, s.Stack = code+2, nums(0) })
		}
		expectStep(t, what+"Exit", machine(stack, nums(8, to), api.Exit), func(s *api.State) { s.Ip, s.Back = to, nums(8) })
		expectStep(t, what+"Catch", machine(nums(1, to), back, api.Catch), func(s *api.State) {
			s.Ip, s.Handler, s.Stack, s.Back = to, 5, nums(1), nums(8, 9, code+1, 0, 1, 1)
		})
		if to >= 64 {
			expectStep(t, what+"a call", machine(stack, back, to), func(s *api.State) { s.Ip, s.Back = to, nums(8, 9, code+1) })
		}
	}
	expectStep(t, "Halt", machine(stack, back, api.Halt), func(s *api.State) { s.Status = api.Done })
}

// P902: Execute calls what lies in the memory, from First on; nothing else.
func TestExecute(t *testing.T) {
	for _, xt := range nums(64, 65, 160, code, 298, 299) {
		expectStep(t, "Execute", machine(nums(1, xt), nums(8), api.Execute), func(s *api.State) {
			s.Ip, s.Stack, s.Back = xt, nums(1), nums(8, code+1)
		})
	}
	for _, xt := range nums(least, -64, -1, 0, 1, 47, 48, 62, 63, 300, 301, 3000, 1<<32+64, greatest) {
		expectFault(t, "Execute", machine(nums(1, xt), nums(8), api.Execute), api.NoWord)
	}
}

// P902: a loop goes round until the index comes to the limit, or crosses it, whichever way, and over the ends of numbers.
func TestLoops(t *testing.T) {
	for _, x := range []struct {
		op, n, limit, index int
		ends                bool
	}{
		{api.Loop, 1, 5, 3, false}, {api.Loop, 1, 5, 4, true}, {api.Loop, 1, 5, 5, false}, {api.Loop, 1, 5, 6, false},
		{api.Loop, 1, 0, -1, true}, {api.Loop, 1, 0, -2, false}, {api.Loop, 1, 0, 0, false},
		{api.Loop, 1, least, greatest, true}, {api.Loop, 1, greatest, least, false}, {api.Loop, 1, greatest, greatest - 1, true},
		{api.Loop, 1, least, least, false}, {api.Loop, 1, 0, greatest, false}, {api.Loop, 1, least + 1, least, true},
		{api.PlusLoop, 1, 5, 3, false}, {api.PlusLoop, 1, 5, 4, true}, {api.PlusLoop, 1, 5, 5, false},
		{api.PlusLoop, 2, 5, 2, false}, {api.PlusLoop, 2, 5, 3, true}, {api.PlusLoop, 2, 5, 4, true}, {api.PlusLoop, 2, 5, 5, false},
		{api.PlusLoop, -1, 5, 6, false}, {api.PlusLoop, -1, 5, 5, true}, {api.PlusLoop, -1, 5, 4, false},
		{api.PlusLoop, -3, 5, 7, true}, {api.PlusLoop, -3, 5, 8, false}, {api.PlusLoop, -3, 5, 9, false},
		{api.PlusLoop, 0, 5, 5, false}, {api.PlusLoop, 0, 5, 4, false}, {api.PlusLoop, 0, 5, 6, false},
		{api.PlusLoop, greatest, 0, -1, true}, {api.PlusLoop, greatest, 0, 1, false}, {api.PlusLoop, least, 0, 0, true}, {api.PlusLoop, least, 0, -1, false},
		{api.PlusLoop, 1, least, greatest, true}, {api.PlusLoop, 5, least, greatest - 2, true}, {api.PlusLoop, 5, least, greatest - 5, false},
	} {
		for _, to := range nums(least, 0, code, 299, 5000) {
			stack := nums(1)
			if x.op == api.PlusLoop {
				stack = nums(1, x.n)
			}
			expectStep(t, fmt.Sprintf("%+v", x), machine(stack, nums(9, x.limit, x.index), x.op, to), func(s *api.State) {
				s.Ip, s.Stack, s.Back = to, nums(1), nums(9, x.limit, x.index+x.n)
				if x.ends {
					s.Ip, s.Back = code+2, nums(9)
				}
			})
		}
	}
}

// P902: the memory is asked and changed at each address there is, and at no other one.
func TestMemory(t *testing.T) {
	addresses := nums(least, least+code, -300, -2, -1, 300, 301, 3000, 1<<32, 1<<32+5, greatest)
	for a := -20; a < 320; a++ {
		addresses = append(addresses, a)
	}
	for _, a := range addresses {
		for op, stack := range map[int][]int{api.Fetch: nums(9, a), api.Store: nums(9, -7, a), api.AddTo: nums(9, -7, a)} {
			s := machine(stack, nums(8))
			for i := range s.Mem {
				s.Mem[i] += 1000 + i
			}
			s.Mem[code] = op
			if a < 0 || a >= 300 {
				expectFault(t, fmt.Sprintf("operation %d of %d", op, a), s, api.NoAddress)
				continue
			}
			expectStep(t, fmt.Sprintf("operation %d of %d", op, a), s, func(s *api.State) {
				s.Ip, s.Stack = code+1, nums(9)
				switch op {
				case api.Fetch:
					s.Stack = nums(9, s.Mem[a])
				case api.Store:
					s.Mem[a] = -7
				case api.AddTo:
					s.Mem[a] -= 7
				}
			})
		}
	}
	s := with(machine(nums(2, 290), nil, api.AddTo), func(s *api.State) { s.Mem[290] = greatest })
	expectStep(t, "AddTo goes round", s, func(s *api.State) { s.Ip, s.Stack, s.Mem[290] = code+1, nil, least+1 })
}

// P902: code is memory as any other: what is stored there is what the next step does.
func TestMemoryIsCode(t *testing.T) {
	s := machine(nums(api.Dup, code+1), nil, api.Store, api.Halt, api.Halt)
	s.Stack = append(nums(4), s.Stack...)
	got, left := inner.Run(s, 10)
	if left != 7 || !slices.Equal(got.Stack, nums(4, 4)) || got.Ip != code+2 {
		t.Errorf("stored ahead: %s, %d left", text(got), left)
	}
	s = machine(nums(1, code), nil, api.AddTo, api.Branch, code)
	s.Mem[code] = api.AddTo
	got, _ = inner.Run(s, 1)
	if got.Mem[code] != api.AddTo+1 || got.Ip != code+1 {
		t.Errorf("stored into itself: %s", text(got))
	}
}

// P902: bytes and numbers are told, to the last byte there is room for.
func TestTalk(t *testing.T) {
	bytes := nums(least, -257, -256, -255, greatest, 1<<32, 1<<32+65)
	for v := range 600 {
		bytes = append(bytes, v, -v)
	}
	for _, v := range bytes {
		expectStep(t, fmt.Sprintf("Emit of %d", v), machine(nums(1, v), nil, api.Emit), func(s *api.State) {
			s.Ip, s.Stack, s.Out = code+1, nums(1), string([]byte{byte(v & 255)})
		})
	}
	for v, want := range map[int]string{
		0: "0 ", 7: "7 ", -7: "-7 ", 10: "10 ", 1234567890: "1234567890 ",
		greatest: "9223372036854775807 ", least: "-9223372036854775808 ", -1: "-1 ", 255: "255 ",
	} {
		for room := range 24 {
			s := machine(nums(1, v), nil, api.Dot)
			s.Out = strings.Repeat("y", 2000-room)
			if room < len(want) {
				expectFault(t, fmt.Sprintf("Dot of %d, room for %d", v, room), s, api.OutFull)
			} else {
				expectStep(t, fmt.Sprintf("Dot of %d, room for %d", v, room), s, func(s *api.State) { s.Ip, s.Stack, s.Out = code+1, nums(1), s.Out+want })
			}
		}
	}
	s := machine(nums(1, 65), nil, api.Emit)
	s.Out = strings.Repeat("y", 2000)
	expectFault(t, "Emit into what is full", s, api.OutFull)
	s.Out = s.Out[1:]
	expectStep(t, "Emit of the last byte", s, func(s *api.State) { s.Ip, s.Stack, s.Out = code+1, nums(1), s.Out+"A" })
}

// P902: each byte is read once, then -1 without an end.
func TestKey(t *testing.T) {
	var in []byte
	for c := range 256 {
		in = append(in, byte(c))
	}
	s := machine(nums(1), nil, api.Key)
	s.In = string(in)
	for read := range 300 {
		want := with(s, func(s *api.State) {
			s.Ip, s.Stack = code+1, nums(1, -1)
			if read < 256 {
				s.Stack[1] = read
				s.Read++
			}
		})
		got := inner.Step(s)
		expect(t, fmt.Sprintf("Key behind %d", read), got, want)
		s = with(got, func(s *api.State) { s.Ip, s.Stack = code, nums(1) })
	}
	s.In, s.Read = "", 0
	expectStep(t, "Key of nothing", s, func(s *api.State) { s.Ip, s.Stack = code+1, nums(1, -1) })
}

// needs tells the fault of a step that needs cells or room on the stacks that it has not; 0: none.
func needs(op, stack, back int) int {
	takes, takesBack, gives, givesBack := effect(op)
	switch {
	case stack < len(takes):
		return api.Under
	case back < len(takesBack):
		return api.BackUnder
	case stack-len(takes)+len(gives) > 48:
		return api.Over
	case back-len(takesBack)+len(givesBack) > 48:
		return api.BackOver
	}
	return 0
}

// P902: each operation with each number of cells on both stacks: cells that must be there, and room, in the order of the chapter.
func TestNeeds(t *testing.T) {
	for op := range api.Ops {
		for stack := range 49 {
			for back := range 49 {
				s := machine(list(stack), list(back), op, code)
				want := s
				if c := needs(op, stack, back); c != 0 {
					want.Status, want.Code = api.Thrown, c
				} else {
					want = stepped(s)
				}
				if got := inner.Step(s); !alike(got, want) {
					expect(t, fmt.Sprintf("operation %d with %d, %d cells", op, stack, back), got, want)
				}
			}
		}
	}
	for back := range 49 {
		s := machine(list(48), list(back), 64)
		if back == 48 {
			expectFault(t, "a call", s, api.BackOver)
		} else {
			expectStep(t, "a call", s, func(s *api.State) { s.Ip, s.Back = 64, append(s.Back, code+1) })
		}
	}
}

// P902: cells that are no operation and no word; places that are no cell; operands that are none.
func TestNoCell(t *testing.T) {
	cells := nums(least, least+api.Dup, -1<<32, -256, -64, -48)
	for c := -47; c < 0; c++ {
		cells = append(cells, c)
	}
	for c := 48; c < 64; c++ {
		cells = append(cells, c)
	}
	for _, c := range cells {
		expectFault(t, fmt.Sprintf("the cell %d", c), machine(list(9), list(9), c), api.NoWord)
		expectFault(t, fmt.Sprintf("the cell %d on full stacks", c), machine(list(48), list(48), c), api.NoWord)
	}
	for _, ip := range nums(least, least+1, -300, -1, 300, 301, 2999, 3000, 1<<32+code, greatest-1, greatest) {
		expectFault(t, fmt.Sprintf("at %d", ip), with(machine(list(9), list(9), api.Nop), func(s *api.State) { s.Ip = ip }), api.NoAddress)
	}
	for op := range api.Ops {
		s := machine(nums(299, 299), list(9))
		s.Ip, s.Mem[299] = 299, op
		switch op {
		case api.Lit, api.Branch, api.Zero, api.Loop, api.PlusLoop:
			expectFault(t, fmt.Sprintf("operation %d at the end", op), s, api.NoAddress)
			s.Stack, s.Back = nil, list(48)
			expectFault(t, fmt.Sprintf("operation %d at the end, with nothing", op), s, api.NoAddress)
		default:
			expect(t, fmt.Sprintf("operation %d at the end", op), inner.Step(s), stepped(s))
		}
	}
	expectFault(t, "without a memory", api.State{}, api.NoAddress)
	s := with(machine(nil, nil), func(s *api.State) { s.Ip, s.Mem[299] = 299, 64 })
	expectStep(t, "a call at the end", s, func(s *api.State) { s.Ip, s.Back = 64, nums(300) })
	expectFault(t, "no word at the end", with(s, func(s *api.State) { s.Mem[299] = -api.Lit }), api.NoWord)
}

// P902: where several faults fit, that of the chapter's order.
func TestWhichFault(t *testing.T) {
	full := list(48)
	for _, x := range []struct {
		what        string
		stack, back []int
		op, want    int
	}{
		{"Under ahead of BackUnder", nil, nums(1), api.PlusLoop, api.Under},
		{"BackUnder ahead of Over", full, nil, api.FromBack, api.BackUnder},
		{"BackUnder ahead of Over", full, nums(1, 2), api.J, api.BackUnder},
		{"Over with room on Back alone", full, nums(1), api.AtBack, api.Over},
		{"BackOver ahead of NoWord", nums(5), full, api.Execute, api.BackOver},
		{"Under ahead of BackOver", nil, full, api.Execute, api.Under},
		{"Under ahead of BackOver", nums(1), full, api.Do, api.Under},
		{"Under ahead of BackOver", nil, full, api.Catch, api.Under},
		{"Under ahead of ByZero", nums(0), nil, api.Div, api.Under},
		{"ByZero", nums(5, 0), nil, api.Div, api.ByZero},
		{"ByZero", nums(0, 0), nil, api.Mod, api.ByZero},
		{"ByZero", nums(least, 0), nil, api.Div, api.ByZero},
		{"Under ahead of NoAddress", nums(-1), nil, api.Store, api.Under},
		{"Under ahead of NoAddress", nums(-1), nil, api.AddTo, api.Under},
		{"Broken ahead of Over", full, nil, api.EndCatch, api.Broken},
		{"Under, and not thrown", nil, nil, api.Throw, api.Under},
	} {
		expectFault(t, x.what, machine(x.stack, x.back, x.op, code), x.want)
	}
	s := machine(nil, nil, api.Dot)
	s.Out = strings.Repeat("x", 2000)
	expectFault(t, "Under ahead of OutFull", s, api.Under)
}

// P902: where there is a limit beneath others that would fit, one step further is no fault.
func TestFullStacks(t *testing.T) {
	full := list(48)
	s := machine(full, full[:46], api.Do)
	expectStep(t, "Do onto the last two", s, func(s *api.State) { s.Ip, s.Stack, s.Back = code+1, full[:46], append(list(46), 147, 148) })
	expectFault(t, "Do onto the last one", machine(full, full[:47], api.Do), api.BackOver)
	expectStep(t, "Rot of full stacks", machine(full, full, api.Rot), func(s *api.State) {
		s.Ip, s.Stack = code+1, append(list(45), 147, 148, 146)
	})
	expectStep(t, "Fetch of full stacks", machine(full, full, api.Fetch), func(s *api.State) {
		s.Ip, s.Stack = code+1, append(list(47), api.Dot)
	})
	expectStep(t, "Loop of full stacks", machine(full, full, api.Loop, code), func(s *api.State) { s.Back = append(list(47), 149) })
	expectStep(t, "Catch onto the last four", machine(nums(5), full[:44], api.Catch), func(s *api.State) {
		s.Ip, s.Handler, s.Stack, s.Back = 5, 47, nil, append(list(44), code+1, 0, 0, 1)
	})
	expectFault(t, "Catch onto three", machine(nums(5), full[:45], api.Catch), api.BackOver)
}

// P902: a state that is not running stays as it is.
func TestNotRunning(t *testing.T) {
	for _, status := range nums(api.Done, api.Thrown) {
		s := with(machine(nums(1, 2), nums(3), api.Dup), func(s *api.State) { s.Status, s.Code, s.Handler, s.Out, s.Read = status, -5, 3, "o", 1 })
		expect(t, "Step", inner.Step(s), s)
		for _, fuel := range nums(least, -1, 0, 1, 100, greatest) {
			got, left := inner.Run(s, fuel)
			expect(t, "Run", got, s)
			if left != fuel {
				t.Errorf("Run: %d left of %d", left, fuel)
			}
		}
	}
}

// P902: of what is thrown, 0 is nothing; all else is a fault without that cell.
func TestThrow(t *testing.T) {
	expectStep(t, "Throw of 0", machine(nums(1, 0), nums(9), api.Throw), func(s *api.State) { s.Ip, s.Stack = code+1, nums(1) })
	for _, n := range nums(least, -57, -9, -4, -1, 1, 2, 48, 1<<32, greatest) {
		s := machine(nums(1, n), nums(9), api.Throw)
		expectStep(t, "Throw", s, func(s *api.State) { s.Stack, s.Status, s.Code = nums(1), api.Thrown, n })
		// The cells that Catch counted come back as zeros where they are gone: also the one that was thrown.
		s.Back, s.Handler = nums(9, 250, 0, 3), 4
		expectStep(t, "Throw, caught", s, func(s *api.State) { s.Ip, s.Handler, s.Stack, s.Back = 250, 0, nums(1, 0, 0, n), nums(9) })
		s.Back[3] = 2
		expectStep(t, "Throw, caught with as many cells", s, func(s *api.State) { s.Ip, s.Handler, s.Stack, s.Back = 250, 0, nums(1, 0, n), nums(9) })
	}
}

// P902: a Catch lays what is needed to come back, whatever was there.
func TestCatch(t *testing.T) {
	for _, handler := range nums(least, -1, 0, 2, 3, 77, greatest) {
		for cells := range 48 {
			s := machine(append(list(cells), 64), nums(7, 8), api.Catch)
			s.Handler = handler
			expectStep(t, "Catch", s, func(s *api.State) {
				s.Ip, s.Handler, s.Stack, s.Back = 64, 5, list(cells), nums(7, 8, code+1, handler, cells, 1)
			})
		}
	}
}

// P902: where what was caught comes back, the machine goes on behind the Catch, with a 0; else the catch is broken.
func TestEndCatch(t *testing.T) {
	for _, handler := range nums(least, -3, -1, 0, 1, 2, 3, 4, 5, 6, 48, greatest) {
		for cells := range 7 {
			s := machine(nums(1, 2), list(cells), api.EndCatch)
			s.Handler = handler
			if handler < 3 || handler != cells {
				// Where the fault finds cells of a catch, the count that lies there is too great: it is not caught.
				expectFault(t, fmt.Sprintf("EndCatch with %d of %d cells", handler, cells), s, api.Broken)
				continue
			}
			expectStep(t, fmt.Sprintf("EndCatch with %d cells", cells), s, func(s *api.State) {
				s.Ip, s.Handler, s.Stack, s.Back = 101+cells-3, 101+cells-2, nums(1, 2, 0), list(cells-3)
			})
		}
	}
	s := with(machine(list(48), list(3), api.EndCatch), func(s *api.State) { s.Handler = 3 })
	expectFault(t, "EndCatch with a full stack", s, api.Over)
	s.Back[2] = 47
	expectStep(t, "EndCatch with a full stack, caught by itself", s, func(s *api.State) {
		s.Ip, s.Handler, s.Stack, s.Back = 101, 102, append(list(47), api.Over), nil
	})
	s.Stack = list(47)
	expectStep(t, "EndCatch onto the last one", s, func(s *api.State) {
		s.Ip, s.Handler, s.Stack, s.Back = 101, 102, append(list(47), 0), nil
	})
}

// P902, P903: a fault within another catch, one that is caught, thrown again, and comes back at last.
func TestCatchesInOneAnother(t *testing.T) {
	s := machine(nums(5, 220), nil, api.Catch, api.Halt)
	copy(s.Mem[220:], nums(api.Lit, 230, api.Catch, api.Lit, 1, api.Add, api.Throw))
	copy(s.Mem[230:], nums(api.Lit, 8, api.Lit, 0, api.Div))
	got, left := inner.Run(s, 100)
	expect(t, "thrown again", got, with(s, func(s *api.State) { s.Ip, s.Stack, s.Status = code+1, nums(5, -9), api.Done }))
	if left != 90 {
		t.Errorf("thrown again: %d left", left)
	}
	copy(s.Mem[223:], nums(api.Exit))
	got, left = inner.Run(s, 100)
	expect(t, "comes back", got, with(s, func(s *api.State) { s.Ip, s.Stack, s.Status = code+1, nums(5, -10, 0), api.Done }))
	if left != 91 {
		t.Errorf("comes back: %d left", left)
	}
}

// P903: a fault is caught just where Handler and the count below it may be, with every number of cells.
func TestFault(t *testing.T) {
	for back := range 9 {
		for _, handler := range nums(least, least+3, -1<<32, -4, -3, -1, 0, 1, 2, 3, 4, 5, 6, 7, 8, 9, 48, 49, 1<<32+3, greatest-1, greatest) {
			for _, count := range nums(least, -1, 0, 1, 2, 3, 46, 47, 48, 49, 1<<32, greatest) {
				s := machine(nums(11, 12), list(back), api.Nop)
				s.Handler = handler
				if handler >= 1 && handler <= back {
					s.Back[handler-1] = count
				}
				if handler < 3 || handler > back || count < 0 || count > 47 {
					expect(t, "not caught", inner.Fault(s, -77), thrown(s, -77))
					continue
				}
				stack := append(append(nums(11, 12), make([]int, 60)...)[:count:count], -77)
				expect(t, "caught", inner.Fault(s, -77), with(s, func(s *api.State) {
					s.Ip, s.Handler, s.Stack, s.Back = 101+handler-3, 101+handler-2, stack, list(handler-3)
				}))
			}
		}
	}
}

// P903: any code is told, of any state; what is not named stays.
func TestFaultOfStates(t *testing.T) {
	for status := range 3 {
		for _, c := range nums(least, -57, -4, -1, 0, 1, greatest) {
			s := machine(list(48), append(nums(71, 72, 47), list(45)...), api.Nop)
			s.Status, s.Code, s.Out, s.Read = status, 5, "out", 2
			before := copied(s).State
			expect(t, "not caught", inner.Fault(s, c), thrown(s, c))
			s.Handler = 3
			expect(t, "caught", inner.Fault(s, c), with(s, func(s *api.State) {
				s.Ip, s.Handler, s.Stack, s.Back = 71, 72, append(list(47), c), nil
			}))
			s.Handler = 0
			expect(t, "what was handed in", s, before)
		}
	}
}

// P903: with each fuel a run is as many steps, and tells what is left.
func TestRun(t *testing.T) {
	s := machine(nums(10, 0), nums(0), api.Do, api.AtBack, api.Dup, api.Mul, api.Dot, api.Loop, code+1, api.Lit, -1, api.Fetch)
	const steps = 1 + 10*5 + 2
	for fuel := -3; fuel < steps+5; fuel++ {
		want := s
		for range fuel {
			want = stepped(want)
		}
		got, left := inner.Run(s, fuel)
		expect(t, fmt.Sprintf("Run with %d", fuel), got, want)
		if rest := max(min(fuel, 0), fuel-steps); left != rest {
			t.Errorf("Run with %d: %d left, not %d", fuel, left, rest)
		}
		if got.Status == api.Thrown != (fuel >= steps) {
			t.Errorf("Run with %d: status %d", fuel, got.Status)
		}
	}
	got, left := inner.Run(s, greatest)
	if left != greatest-steps || got.Out != "0 1 4 9 16 25 36 49 64 81 " || got.Code != api.NoAddress {
		t.Errorf("Run: %s, %d left", text(got), left)
	}
	got, left = inner.Run(s, least)
	if left != least {
		t.Errorf("Run: %d left", left)
	}
	expect(t, "Run with less than nothing", got, s)
}

// P903: a run in pieces is the run in one, whatever the pieces; an endless one ends with its fuel.
func TestRunInPieces(t *testing.T) {
	const fuel = 20_000
	s := machine(nums(0), nil, api.Lit, 1, api.Add, api.Dup, api.Lit, 290, api.Store, 64+2*api.Nop, api.Branch, code)
	whole, left := inner.Run(s, fuel)
	if left != 0 || whole.Status != api.Running || whole.Mem[290] != fuel/9 {
		t.Errorf("endless: %s, %d left", text(whole), left)
	}
	for _, piece := range nums(1, 2, 7, 999) {
		got := s
		for left := fuel; left > 0; left -= piece {
			got, _ = inner.Run(got, min(piece, left))
		}
		expect(t, fmt.Sprintf("in pieces of %d", piece), got, whole)
	}
}

// P902, P903: of states that may not be nothing is said, but that no call panics, and all end.
func TestWrongStates(t *testing.T) {
	for _, s := range wrongs() {
		for _, handler := range nums(least, 0, 3, 48, 49, 60, greatest) {
			for op := range api.Ops {
				s.Mem[code], s.Mem[code+1], s.Handler = op, code, handler
				inner.Step(s)
				inner.Run(s, 5)
				inner.Enter(s, code)
				inner.Fault(s, -1)
			}
		}
	}
}
