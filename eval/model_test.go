package eval_test

import (
	"slices"
	"strconv"
	"strings"
	"testing"

	"holloway/api"
	"holloway/cell"
	"holloway/eval"
	"holloway/ir"
)

// twos and ones are the operations of two cells, and of one.
var (
	twos = []int{
		api.Add, api.Sub, api.Mul, api.Div, api.Mod, api.And, api.Or, api.Xor, api.Left, api.Right,
		api.Equal, api.Less, api.ULess, api.Min, api.Max,
	}
	ones = []int{api.Negate, api.Invert, api.IsZero, api.IsNeg}
)

// way is what becomes of a run at an instruction: where it is left, or that it goes on.
type way string

const (
	on     way = "on"
	byX    way = "X"
	byA    way = "A"
	atLast way = "last"
	not    way = "not"
)

// model is a run that is worked out backwards: each value is asked of the instruction that gives it, when it is needed.
type model struct {
	t       api.Trace
	s       api.State // as it was
	watched []int
	puts    []int   // places of what was stored so far
	said    string  // what was told so far
	asks    []int   // places of what was asked so far
	loads   [][]int // the memory as each instruction found it
}

// mem is the memory as it is now.
func (m *model) mem() []int {
	l := slices.Clone(m.s.Mem)
	for _, p := range m.puts {
		l[m.of(m.t.Ins[p].B)] = m.of(m.t.Ins[p].C)
	}
	return l
}

// of is the value of a place.
func (m *model) of(p int) int {
	switch i := m.t.Ins[p]; i.Op {
	case api.Const:
		return i.A
	case api.Slot:
		return m.s.Stack[len(m.s.Stack)-1-i.A]
	case api.Behind:
		return m.s.Back[len(m.s.Back)-1-i.A]
	case api.Load:
		return m.loads[p][m.of(i.B)]
	case api.Ask:
		if k := m.s.Read + slices.Index(m.asks, p); k < len(m.s.In) {
			return int(m.s.In[k])
		}
		return -1
	default:
		if slices.Contains(ones, i.A) {
			v, _ := cell.One(i.A, m.of(i.B))
			return v
		}
		v, _ := cell.Two(i.A, m.of(i.B), m.of(i.C))
		return v
	}
}

// at does what the instruction at a place does to others, and tells what becomes of the run.
func (m *model) at(p int) way {
	i := m.t.Ins[p]
	switch i.Op {
	case api.Calc:
		return m.unless((i.A == api.Div || i.A == api.Mod) && m.of(i.C) == 0)
	case api.Load:
		m.loads[p] = m.mem()
		return m.unless(!m.there(m.of(i.B)))
	case api.Put:
		if !m.there(m.of(i.B)) {
			return byX
		}
		m.puts = append(m.puts, p)
		if slices.Contains(m.watched, m.of(i.B)) {
			return byA
		}
	case api.Must:
		return m.unless(m.of(i.B) == 0)
	case api.MustNot:
		return m.unless(m.of(i.B) != 0)
	case api.Same:
		return m.unless(m.of(i.B) != m.of(i.C))
	case api.Say:
		return m.tell(string([]byte{byte(uint(m.of(i.B)) % 256)}))
	case api.Tell:
		return m.tell(strconv.Itoa(m.of(i.B)) + " ")
	case api.Ask:
		m.asks = append(m.asks, p)
	}
	return on
}

func (m *model) there(a int) bool { return a >= 0 && a < len(m.s.Mem) }

func (m *model) unless(left bool) way {
	if left {
		return byX
	}
	return on
}

func (m *model) tell(text string) way {
	if len(m.s.Out+m.said+text) > 2000 {
		return byX
	}
	m.said += text
	return on
}

// run tells what is to be told, and what became of each instruction that was reached: how often, by their names.
func (m *model) run(seen map[string]int) (api.State, eval.Done, way) {
	s, t := m.s, m.t
	if s.Status != 0 || s.Ip != t.Start || len(s.Stack) < t.Slots || len(s.Back) < t.Backs || len(s.Stack)+t.Grow > 48 || len(s.Back)+t.GrowBack > 48 {
		return s, eval.Done{Exit: -1}, not
	}
	m.loads = make([][]int, len(t.Ins))
	exit, w := t.Last, atLast
	for p, i := range t.Ins {
		became := m.at(p)
		seen[strings.Fields(ir.Text(i))[0]+" "+string(became)]++
		if became != on {
			exit, w = map[way]int{byX: i.X, byA: i.A}[became], became
			break
		}
	}
	x := t.Outs[exit]
	s.Ip, s.Mem, s.Out, s.Read = x.Ip, m.mem(), s.Out+m.said, min(s.Read+len(m.asks), len(s.In))
	s.Stack = slices.Concat(s.Stack[:len(s.Stack)-t.Slots], m.all(x.Stack))
	s.Back = slices.Concat(s.Back[:len(s.Back)-t.Backs], m.all(x.Back))
	return s, eval.Done{Exit: exit, Steps: x.Steps, Hit: w == byA}, w
}

func (m *model) all(places []int) []int {
	var l []int
	for _, p := range places {
		l = append(l, m.of(p))
	}
	return l
}

// drawer draws numbers, the same ones each time.
type drawer uint

func (d *drawer) below(n int) int {
	*d = *d*6364136223846793005 + 1442695040888963407
	return int(uint(*d)>>33) % n
}

// cell draws a cell: most often one that is an address, or is the same as another one.
func (d *drawer) cell() int {
	if d.below(8) == 0 {
		return edges()[d.below(len(edges()))]
	}
	return d.below(5)
}

func (d *drawer) cells(n int) []int {
	l := make([]int, n)
	for k := range l {
		l[k] = d.cell()
	}
	return l
}

// pick draws some of a list, at most so many.
func (d *drawer) pick(l []int, most int) []int {
	if len(l) == 0 {
		return nil
	}
	picked := make([]int, d.below(most+1))
	for k := range picked {
		picked[k] = l[d.below(len(l))]
	}
	return picked
}

// trace draws one that is right.
func (d *drawer) trace() api.Trace {
	t := api.Trace{Start: d.below(3), Slots: d.below(4), Backs: d.below(3), Grow: d.below(4), GrowBack: d.below(3)}
	var give []int
	exit := func() int {
		t.Outs = append(t.Outs, api.Out{
			Ip: d.below(3000), Steps: d.below(120) + 1,
			Stack: d.pick(give, t.Slots+t.Grow), Back: d.pick(give, t.Backs+t.GrowBack),
		})
		return len(t.Outs) - 1
	}
	for at := range d.below(16) {
		i := d.ins(t, give)
		if len(ir.Outs(i)) > 0 {
			i.X = exit()
		}
		if i.Op == api.Put {
			i.A = exit()
		}
		if ir.Gives(i.Op) {
			give = append(give, at)
		}
		t.Ins = append(t.Ins, i)
	}
	t.Last = exit()
	return t
}

// ins draws an instruction that may be there, but for its exits.
func (d *drawer) ins(t api.Trace, give []int) api.Ins {
	i := api.Ins{Op: 1 + d.below(12), A: d.cell(), B: d.cell(), C: d.cell(), X: d.cell()}
	if i.Op == api.Slot && t.Slots == 0 || i.Op == api.Behind && t.Backs == 0 || len(give) == 0 && i.Op > api.Behind {
		i.Op = []int{api.Const, api.Ask}[d.below(2)]
	}
	switch i.Op {
	case api.Slot:
		i.A = d.below(t.Slots)
	case api.Behind:
		i.A = d.below(t.Backs)
	case api.Calc:
		both := append(slices.Clone(twos), ones...)
		i.A = both[d.below(len(both))]
	}
	if used := len(ir.Uses(i)); used > 0 {
		i.B = give[d.below(len(give))]
		if used > 1 {
			i.C = give[d.below(len(give))]
		}
	}
	return i
}

// state draws a machine for a trace, which most often may be entered.
func (d *drawer) state(t api.Trace) api.State {
	s := api.State{
		Ip: t.Start, Handler: d.below(5), Code: -d.below(5),
		Stack: d.cells(t.Slots + d.below(3)), Back: d.cells(t.Backs + d.below(3)), Mem: d.cells(5 + d.below(3)),
		In: "\x00\x01\xfe4"[:d.below(5)], Out: strings.Repeat("x", d.below(3)),
	}
	s.Read = d.below(len(s.In) + 1)
	switch d.below(12) {
	case 0:
		s.Ip += d.below(3) - 1
	case 1:
		s.Status = d.below(3)
	case 2:
		s.Stack = d.cells(48 - d.below(5))
	case 3:
		s.Back = d.cells(48 - d.below(5))
	case 4:
		s.Stack = s.Stack[:d.below(len(s.Stack)+1)]
	case 5:
		s.Back = s.Back[:d.below(len(s.Back)+1)]
	case 6, 7:
		s.Out = strings.Repeat("x", 1990+d.below(11))
	case 8:
		s.Mem = s.Mem[:d.below(3)]
	}
	return s
}

// P1501, P1502: drawn traces of drawn machines, with cells that are watched and without, against the model.
func TestDrawn(t *testing.T) {
	seen, ways := map[string]int{}, map[way]int{}
	for seed := range 60_000 {
		d := drawer(seed)
		x := d.trace()
		if !ir.Right(x) {
			t.Fatalf("%v isn't right", x)
		}
		s := d.state(x)
		watched := d.pick(nums(0, 1, 2, 3, 4, 5, -1, least, 1<<32), 2)
		m := &model{t: x, s: s, watched: watched}
		want, done, w := m.run(seen)
		ways[w]++
		old := s
		old.Stack, old.Back, old.Mem = slices.Clone(s.Stack), slices.Clone(s.Back), slices.Clone(s.Mem)
		if got := eval.May(x, s); got != (w != not) {
			t.Fatalf("May(%v, %v): %t", x, s, got)
		}
		got, is := eval.Run(x, s, watched...)
		if !alike(got, want) || is != done {
			t.Fatalf("Run(%v, %v, %v): %v, %v, not %v, %v", x, s, watched, got, is, want, done)
		}
		if !alike(s, old) {
			t.Fatalf("Run(%v, %v, %v) changed it to %v", x, old, watched, s)
		}
	}
	for _, w := range []way{byX, byA, atLast, not} {
		if ways[w] < 500 {
			t.Errorf("%s: %d times", w, ways[w])
		}
	}
	for _, what := range []string{
		"const on", "slot on", "behind on", "ask on", "calc on", "calc X", "load on", "load X", "put on", "put X", "put A",
		"must on", "must X", "mustnot on", "mustnot X", "same on", "same X", "say on", "say X", "tell on", "tell X",
	} {
		if seen[what] < 200 {
			t.Errorf("%s: %d times", what, seen[what])
		}
	}
}

// Nothing panics, and all ends: drawn traces of which some numbers are changed.
func TestDrawnWrong(t *testing.T) {
	wrong := 0
	for seed := range 40_000 {
		d := drawer(seed)
		x := d.trace()
		s := d.state(x)
		for range 1 + d.below(3) {
			d.spoil(&x)
		}
		if !ir.Right(x) {
			wrong++
		}
		eval.May(x, s)
		eval.Run(x, s, d.cells(3)...)
	}
	if wrong < 10_000 {
		t.Errorf("%d are wrong", wrong)
	}
}

// spoil changes a number of a trace; it may still be right.
func (d *drawer) spoil(t *api.Trace) {
	n := append(edges(), 3, 48, 49)[d.below(len(edges())+3)]
	o := &t.Outs[d.below(len(t.Outs))]
	switch d.below(5) {
	case 0:
		*[]*int{&t.Start, &t.Slots, &t.Backs, &t.Grow, &t.GrowBack, &t.Last}[d.below(6)] = n
	case 1:
		o.Stack = append(o.Stack, n)
	case 2:
		o.Back = append(o.Back, n)
	default:
		if len(t.Ins) > 0 {
			i := &t.Ins[d.below(len(t.Ins))]
			*[]*int{&i.Op, &i.A, &i.B, &i.C, &i.X}[d.below(5)] = n
		}
	}
}
