package inner_test

import (
	"math"
	"slices"
	"strconv"
	"strings"
	"testing"

	"holloway/api"
	"holloway/cell"
	"holloway/inner"
)

// effect tells what a step takes from both stacks and gives to them, as letters, the deepest first: takes, then gives;
// of what is no letter alone, but is reckoned, each letter stands for a cell.
func effect(op int) (takes, takesBack, gives, givesBack string) {
	all := [api.Ops]string{
		api.Halt: "|/|", api.EndCatch: "|/|", api.Nop: "|/|", api.Lit: "|/x|", api.Branch: "|/|", api.Zero: "a|/|", api.Exit: "|a/|",
		api.Dup: "a|/aa|", api.Drop: "a|/|", api.Swap: "ab|/ba|", api.Copy: "ab|/aba|", api.Rot: "abc|/bca|",
		api.Add: "ab|/x|", api.Sub: "ab|/x|", api.Mul: "ab|/x|", api.Div: "ab|/x|", api.Mod: "ab|/x|",
		api.And: "ab|/x|", api.Or: "ab|/x|", api.Xor: "ab|/x|", api.Left: "ab|/x|", api.Right: "ab|/x|",
		api.Equal: "ab|/x|", api.Less: "ab|/x|", api.ULess: "ab|/x|", api.Min: "ab|/x|", api.Max: "ab|/x|",
		api.Negate: "a|/x|", api.Invert: "a|/x|", api.IsZero: "a|/x|", api.IsNeg: "a|/x|",
		api.Fetch: "a|/x|", api.Store: "ab|/|", api.AddTo: "ab|/|",
		api.ToBack: "a|/|a", api.FromBack: "|a/a|", api.AtBack: "|a/a|a", api.Do: "ab|/|ab",
		api.Loop: "|ab/|xx", api.PlusLoop: "n|ab/|xx", api.J: "|abc/a|abc", api.Unloop: "|ab/|",
		api.Emit: "a|/|", api.Dot: "a|/|", api.Key: "|/x|",
		api.Execute: "a|/|x", api.Throw: "a|/|", api.Catch: "a|/|xxxx",
	}
	took, gave, _ := strings.Cut(all[op], "/")
	takes, takesBack, _ = strings.Cut(took, "|")
	gives, givesBack, _ = strings.Cut(gave, "|")
	return takes, takesBack, gives, givesBack
}

// moves tells whether a step does nothing but what its effect's letters say.
func moves(op int) bool {
	_, _, gives, givesBack := effect(op)
	switch op {
	case api.Halt, api.EndCatch, api.Branch, api.Zero, api.Exit, api.Store, api.AddTo, api.Emit, api.Dot, api.Throw:
		return false
	}
	return !strings.Contains(gives+givesBack, "x")
}

// model is a state as it is asked to be, step by step.
type model struct {
	api.State
	lost int // cells of the stack that a fault's step took all the same
}

func copied(s api.State) *model {
	s.Stack, s.Back, s.Mem = append([]int(nil), s.Stack...), append([]int(nil), s.Back...), append([]int(nil), s.Mem...)
	return &model{State: s}
}

func (m *model) push(l ...int)     { m.Stack = append(m.Stack, l...) }
func (m *model) pushBack(l ...int) { m.Back = append(m.Back, l...) }

func (m *model) pop() int {
	v := m.Stack[len(m.Stack)-1]
	m.Stack = m.Stack[:len(m.Stack)-1]
	return v
}

func (m *model) popBack() int {
	v := m.Back[len(m.Back)-1]
	m.Back = m.Back[:len(m.Back)-1]
	return v
}

func (m *model) has(a int) bool { return 0 <= a && a < len(m.Mem) }

// stepped tells a state a step later.
func stepped(s api.State) api.State {
	m := copied(s)
	if s.Status != api.Running {
		return m.State
	}
	code := m.try()
	if code == 0 {
		return m.State
	}
	s.Stack = s.Stack[:len(s.Stack)-m.lost]
	return faulted(s, code)
}

// faulted tells a state with a fault.
func faulted(s api.State, code int) api.State {
	m := copied(s)
	h := s.Handler
	if h < 3 || h > len(s.Back) || s.Back[h-1] < 0 || s.Back[h-1] > 47 {
		m.Status, m.Code = api.Thrown, code
		return m.State
	}
	m.Ip, m.Handler, m.Back = s.Back[h-3], s.Back[h-2], m.Back[:h-3]
	for len(m.Stack) < s.Back[h-1] {
		m.push(0)
	}
	m.Stack = m.Stack[:s.Back[h-1]]
	m.push(code)
	return m.State
}

// try does a step; a fault's code, behind which nothing of the model counts.
func (m *model) try() int {
	if !m.has(m.Ip) {
		return api.NoAddress
	}
	c, arg, behind := m.Mem[m.Ip], 0, m.Ip+1
	switch c {
	case 2, 3, 4, 37, 38:
		if !m.has(behind) {
			return api.NoAddress
		}
		arg, behind = m.Mem[behind], behind+1
	}
	switch {
	case c < 0 || 47 < c && c < 64:
		return api.NoWord
	case c >= 64 && len(m.Back) >= 48:
		return api.BackOver
	case c >= 64:
		m.pushBack(m.Ip + 1)
		m.Ip = c
		return 0
	}
	takes, takesBack, gives, givesBack := effect(c)
	switch {
	case len(m.Stack) < len(takes):
		return api.Under
	case len(m.Back) < len(takesBack):
		return api.BackUnder
	case len(m.Stack)-len(takes)+len(gives) > 48:
		return api.Over
	case len(m.Back)-len(takesBack)+len(givesBack) > 48:
		return api.BackOver
	}
	at := m.Ip
	m.Ip = behind
	if moves(c) {
		m.move(takes, takesBack, gives, givesBack)
		return 0
	}
	return m.other(c, arg, at)
}

// move takes cells by letters, and gives them.
func (m *model) move(takes, takesBack, gives, givesBack string) {
	var of [128]int
	for i := len(takes) - 1; i >= 0; i-- {
		of[takes[i]] = m.pop()
	}
	for i := len(takesBack) - 1; i >= 0; i-- {
		of[takesBack[i]] = m.popBack()
	}
	for _, c := range []byte(gives) {
		m.push(of[c])
	}
	for _, c := range []byte(givesBack) {
		m.pushBack(of[c])
	}
}

// other does what is more than a move.
func (m *model) other(c, arg, at int) int {
	switch c {
	case api.Halt:
		m.Status, m.Ip = api.Done, at
	case api.Exit:
		m.Ip = m.popBack()
	case api.Branch:
		m.Ip = arg
	case api.Zero:
		if m.pop() == 0 {
			m.Ip = arg
		}
	case api.Lit:
		m.push(arg)
	case api.Loop, api.PlusLoop:
		m.loop(c, arg)
	case api.Execute:
		xt := m.pop()
		if xt < 64 || !m.has(xt) {
			return api.NoWord
		}
		m.pushBack(m.Ip)
		m.Ip = xt
	case api.Throw:
		code := m.pop()
		if code != 0 {
			m.lost = 1
		}
		return code
	case api.Catch:
		xt := m.pop()
		m.pushBack(m.Ip, m.Handler, len(m.Stack))
		m.Handler = len(m.Back)
		m.pushBack(1)
		m.Ip = xt
	case api.EndCatch:
		if m.Handler < 3 || len(m.Back) != m.Handler {
			return api.Broken
		}
		if len(m.Stack) > 47 {
			return api.Over
		}
		m.popBack()
		m.Handler = m.popBack()
		m.Ip = m.popBack()
		m.push(0)
	default:
		return m.value(c)
	}
	return 0
}

func (m *model) loop(c, arg int) {
	n, ends := 1, false
	if c == api.PlusLoop {
		n = m.pop()
		ends = cell.Crosses(m.Back[len(m.Back)-1]-m.Back[len(m.Back)-2], n)
	}
	m.Back[len(m.Back)-1] += n
	if c == api.Loop {
		ends = m.Back[len(m.Back)-1] == m.Back[len(m.Back)-2]
	}
	if !ends {
		m.Ip = arg
		return
	}
	m.popBack()
	m.popBack()
}

// value does what asks or changes the memory, talks or reckons.
func (m *model) value(c int) int {
	switch c {
	case api.Fetch, api.Store, api.AddTo:
		a := m.pop()
		if !m.has(a) {
			return api.NoAddress
		}
		switch c {
		case api.Fetch:
			m.push(m.Mem[a])
		case api.Store:
			m.Mem[a] = m.pop()
		case api.AddTo:
			m.Mem[a] += m.pop()
		}
	case api.Emit, api.Dot:
		v := m.pop()
		m.Out += map[int]string{api.Emit: string([]byte{byte(uint(v) % 256)}), api.Dot: strconv.Itoa(v) + " "}[c]
		if len(m.Out) > 2000 {
			return api.OutFull
		}
	case api.Key:
		if m.Read == len(m.In) {
			m.push(-1)
			return 0
		}
		m.push(int(m.In[m.Read]))
		m.Read++
	default:
		takes, _, _, _ := effect(c)
		b := m.pop()
		v, is := cell.One(c, b)
		if len(takes) == 2 {
			v, is = cell.Two(c, m.pop(), b)
		}
		if !is {
			return api.ByZero
		}
		m.push(v)
	}
	return 0
}

// drawer draws numbers, the same ones each time.
type drawer uint

func (d *drawer) below(n int) int {
	*d = *d*6364136223846793005 + 1442695040888963407
	return int(uint(*d)>>33) % n
}

// cell draws a cell that may turn something: an operation, an address, a size, an end.
func (d *drawer) cell(size int) int {
	switch d.below(8) {
	case 0:
		return d.below(7) - 3
	case 1:
		return d.below(api.Ops)
	case 2:
		return api.First + 2*d.below(api.Ops)
	case 3:
		return size - 2 + d.below(4)
	case 4:
		return []int{math.MinInt, math.MinInt + 1, -1 << 32, 1 << 32, math.MaxInt - 1, math.MaxInt, 63, 64, 48, 47}[d.below(10)]
	}
	return d.below(size + 1)
}

// list draws cells, most often few or nearly as many as may be.
func (d *drawer) list(most, size int) []int {
	n := []int{d.below(most + 1), d.below(4), most - d.below(5), 3 + d.below(9)}[d.below(4)]
	l := make([]int, n)
	for i := range l {
		l[i] = d.cell(size)
	}
	return l
}

// state draws a machine that runs.
func (d *drawer) state() api.State {
	s := inner.Boot([]int{1 + d.below(64), 160 + d.below(200), 200, 230}[d.below(4)], "")
	size := len(s.Mem)
	for a := range s.Mem {
		if a >= 160 || size < 64 {
			s.Mem[a] = d.cell(size)
			if d.below(2) == 0 {
				s.Mem[a] = d.below(api.Ops)
			}
		}
	}
	s.Status, s.Code = api.Running, d.below(3)-1
	s.Ip = size - 1 - d.below(min(size, 40))
	if d.below(50) == 0 {
		s.Ip = d.cell(size)
	}
	s.Stack, s.Back = d.list(api.MaxStack, size), d.list(api.MaxBack, size)
	s.Handler = d.cell(size)
	if n := len(s.Back); n >= 3 && d.below(3) > 0 {
		s.Handler = 3 + d.below(n-2)
		if d.below(2) == 0 {
			s.Handler = n
		}
		s.Back[s.Handler-1] = d.below(51) - 1
	}
	s.Out = strings.Repeat("x", []int{0, d.below(api.MaxOut + 1), api.MaxOut - d.below(4)}[d.below(3)])
	s.In = "a\x00\xff z"[:d.below(6)]
	s.Read = d.below(len(s.In) + 1)
	return s
}

// done is what a step came to: an operation (api.Ops: a call; -1: none), and the code of its fault (1: any that was thrown).
type done struct{ op, code int }

// came tells what a step comes to.
func came(s api.State) done {
	m := copied(s)
	code := m.try()
	if s.Ip < 0 || s.Ip >= len(s.Mem) {
		return done{-1, code}
	}
	c := s.Mem[s.Ip]
	switch {
	case c >= api.First:
		c = api.Ops
	case c < 0 || c >= api.Ops:
		c = -1
	}
	if m.lost > 0 {
		code = 1
	}
	return done{c, code}
}

// P902, P903: steps of machines of all kinds, one by one and many at once, against the model.
func TestManySteps(t *testing.T) {
	d := drawer(1)
	seen := map[done]int{}
	for range 60_000 {
		s := d.state()
		many := s
		n := d.below(12)
		for range n {
			if s.Status == api.Running {
				seen[came(s)]++
			}
			want := stepped(s)
			if got := inner.Step(s); !alike(got, want) {
				expect(t, "a step of "+text(s), got, want)
				t.FailNow()
			}
			s = want
		}
		got, _ := inner.Run(many, n)
		expect(t, "all at once", got, s)
	}
	expectSeen(t, seen)
}

// expectSeen holds it that each step, and each fault that it can come to, was seen more than once or twice.
func expectSeen(t *testing.T, seen map[done]int) {
	t.Helper()
	want := []done{
		{-1, api.NoAddress}, {-1, api.NoWord}, {api.Ops, 0}, {api.Ops, api.BackOver},
		{api.EndCatch, api.Broken}, {api.EndCatch, api.Over}, {api.Throw, 1}, {api.Div, api.ByZero}, {api.Mod, api.ByZero},
		{api.Emit, api.OutFull}, {api.Dot, api.OutFull}, {api.Execute, api.NoWord},
		{api.Fetch, api.NoAddress}, {api.Store, api.NoAddress}, {api.AddTo, api.NoAddress},
	}
	for op := range api.Ops {
		takes, takesBack, gives, givesBack := effect(op)
		want = append(want, done{op, 0})
		for code, can := range map[int]bool{
			api.Under: takes != "", api.BackUnder: takesBack != "",
			api.Over: len(gives) > len(takes), api.BackOver: len(givesBack) > len(takesBack),
			api.NoAddress: slices.Contains([]int{2, 3, 4, 37, 38}, op),
		} {
			if can {
				want = append(want, done{op, code})
			}
		}
	}
	for _, w := range want {
		if seen[w] < 5 {
			t.Errorf("operation %d with the fault %d: seen %d times", w.op, w.code, seen[w])
		}
	}
}
