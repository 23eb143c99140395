package slots_test

import (
	"math"
	"slices"
	"testing"

	"holloway/api"
	"holloway/eval"
	"holloway/ir"
	"holloway/slots"
)

const (
	least    = math.MinInt
	greatest = math.MaxInt
)

// These are the exits of the traces that are made here.
const (
	aside = 0
	end   = 1
	hit   = 2
	spare = 3
)

const (
	start = 7 // where they begin
	own   = 3 // the place of the first instruction that is more
)

// twos and ones are the operations of two values and of one that leave no trace.
var (
	twos = nums(api.Add, api.Sub, api.Mul, api.And, api.Or, api.Xor, api.Left, api.Right, api.Equal, api.Less, api.ULess, api.Min, api.Max)
	ones = nums(api.Negate, api.Invert, api.IsZero, api.IsNeg)
)

// nums makes a list.
func nums(l ...int) []int { return l }

// all makes a list of instructions.
func all(l ...api.Ins) []api.Ins { return l }

// out makes an exit at an Ip.
func out(ip int, stack, back []int) api.Out {
	return api.Out{Ip: ip, Steps: ip % 10, Stack: stack, Back: back}
}

// bare makes a trace that takes two cells of each stack, at whose end some places lie there. The other exits tell of nothing.
func bare(stack []int, ins ...api.Ins) api.Trace {
	return api.Trace{
		Start: start, Slots: 2, Backs: 2, Grow: 6, GrowBack: 4, Ins: ins,
		Outs: []api.Out{aside: out(70, nil, nil), end: out(81, stack, nil), hit: out(92, nil, nil), spare: out(103, nil, nil)},
		Last: end, Cells: nums(7, 8, 11),
	}
}

// trace makes one that begins with all that it takes but one cell of the return stack: a and b of the stack (places 0 and 1), and place 2.
func trace(stack []int, more ...api.Ins) api.Trace {
	return bare(stack, append(all(slot(0), slot(1), behind(0)), more...)...)
}

func con(v int) api.Ins { return api.Ins{Op: api.Const, A: v} }

func slot(a int) api.Ins   { return api.Ins{Op: api.Slot, A: a} }
func behind(a int) api.Ins { return api.Ins{Op: api.Behind, A: a} }
func ask() api.Ins         { return api.Ins{Op: api.Ask} }

func calc(op, b, c int) api.Ins { return api.Ins{Op: api.Calc, A: op, B: b, C: c, X: aside} }

func load(b int) api.Ins     { return api.Ins{Op: api.Load, B: b, X: aside} }
func put(b, c int) api.Ins   { return api.Ins{Op: api.Put, A: hit, B: b, C: c, X: aside} }
func must(b int) api.Ins     { return api.Ins{Op: api.Must, B: b, X: aside} }
func mustNot(b int) api.Ins  { return api.Ins{Op: api.MustNot, B: b, X: aside} }
func equal(b, c int) api.Ins { return api.Ins{Op: api.Same, B: b, C: c, X: aside} }
func say(b int) api.Ins      { return api.Ins{Op: api.Say, B: b, X: aside} }
func tell(b int) api.Ins     { return api.Ins{Op: api.Tell, B: b, X: aside} }

// by makes an instruction that is left by another exit.
func by(x int, i api.Ins) api.Ins {
	i.X = x
	return i
}

// edges are numbers that would be others in fewer bits, or without a sign.
func edges() []int {
	return nums(least, least+1, -1<<32, -256, -7, -2, -1, 0, 1, 2, 3, 63, 64, 255, 256, 1<<31, 1<<32, 1<<32+1, greatest-1, greatest)
}

// states are machines in which trace may be entered, and some in which it may not be.
func states() []api.State {
	var l []api.State
	for _, stack := range [][]int{nums(9, 1, 2), nums(0, 0), nums(-1, 3, 3), nums(4, 0), nums(4, 5, 0), nums(2, least), nums(2, 4), nums(1, 0)} {
		l = append(l, api.State{Ip: start, Handler: 2, Stack: stack, Back: nums(31, 4), Mem: nums(3, 0, 2, 1, 104), Out: "<", In: "xyz", Read: 1, Code: -44})
	}
	for _, status := range nums(api.Done, api.Thrown) {
		l = append(l, api.State{Ip: start, Stack: nums(1, 2), Back: nums(3, 4), Status: status})
	}
	return append(l, api.State{Ip: start, Stack: nums(1), Back: nums(4)}, api.State{Ip: start + 1, Stack: nums(1, 2), Back: nums(4, 4)}, api.State{})
}

func expect[T comparable](t *testing.T, what string, got, want T) {
	t.Helper()
	if got != want {
		t.Errorf("%s: %v, not %v", what, got, want)
	}
}

// alike tells whether two machines are; lists that are nil and empty are one.
func alike(a, b api.State) bool {
	return a.Ip == b.Ip && a.Handler == b.Handler && a.Out == b.Out && a.In == b.In && a.Read == b.Read &&
		a.Status == b.Status && a.Code == b.Code &&
		slices.Equal(a.Stack, b.Stack) && slices.Equal(a.Back, b.Back) && slices.Equal(a.Mem, b.Mem)
}

// whole makes a copy of a trace.
func whole(t api.Trace) api.Trace {
	t.Ins, t.Cells, t.Outs = slices.Clone(t.Ins), slices.Clone(t.Cells), slices.Clone(t.Outs)
	for k, x := range t.Outs {
		t.Outs[k].Stack, t.Outs[k].Back = slices.Clone(x.Stack), slices.Clone(x.Back)
	}
	return t
}

// expectRun runs code and its trace of a machine, and holds one against the other; it tells by which exit they were left.
func expectRun(t *testing.T, what string, a api.Trace, c *slots.Code, s api.State, watched ...int) int {
	t.Helper()
	want, x := eval.Run(a, s, watched...)
	got, y := c.Run(s, watched...)
	if !alike(got, want) || x != y {
		t.Errorf("%s: of %+v with %v: %+v %+v, not %+v %+v", what, s, watched, got, y, want, x)
	}
	return x.Exit
}

// expectCode holds all that is promised of a trace that is right, of which so many values are alive at once, and tells its code in the fewest registers.
func expectCode(t *testing.T, what string, a api.Trace, alive int, of ...api.State) *slots.Code {
	t.Helper()
	if !ir.Right(a) {
		t.Fatalf("%s: %+v isn't right", what, a)
	}
	was := whole(a)
	expect(t, what+": Least", slots.Least(a), alive)
	for _, most := range nums(alive-1, alive-2, -1, least) {
		if c, is := slots.Make(a, most); is || c != nil {
			t.Errorf("%s: there is code of %d, in %d registers", what, alive, most)
		}
	}
	fewest := expectMade(t, what, a, alive, of)
	for _, most := range nums(alive+1, alive+7, 2000, greatest) {
		expectMade(t, what, a, most, of)
	}
	expect(t, what+": stays", ir.Same(a, was), true)
	return fewest
}

// expectMade makes code in at most so many registers, and holds its runs against those of the trace.
func expectMade(t *testing.T, what string, a api.Trace, most int, of []api.State) *slots.Code {
	t.Helper()
	c, is := slots.Make(a, most)
	if !is || c == nil {
		t.Fatalf("%s: no code of %+v in %d registers", what, a, most)
	}
	expect(t, what+": Len", c.Len(), len(a.Ins))
	fewest := 0
	if slices.ContainsFunc(a.Ins, func(i api.Ins) bool { return ir.Gives(i.Op) }) {
		fewest = 1
	}
	if n := c.Registers(); n < fewest || n > most {
		t.Errorf("%s: %d registers, where %d may be", what, n, most)
	}
	for _, s := range of {
		expectRun(t, what, a, c, s)
		expectRun(t, what, a, c, s, 0, 2, 3)
	}
	return c
}

// expectAlive holds it how many values are alive at once in a trace of these instructions, at whose end some places lie on the stack.
func expectAlive(t *testing.T, what string, alive int, stack []int, ins ...api.Ins) {
	t.Helper()
	expectCode(t, what, bare(stack, ins...), alive, states()...)
}

// P2001: the chapter's example.
func TestExample(t *testing.T) {
	a := api.Trace{Start: 3, Slots: 1, Ins: all(slot(0), api.Ins{Op: api.Calc, A: api.Add}), Outs: []api.Out{{Ip: 4, Steps: 2, Stack: nums(1)}}}
	c := expectCode(t, "doubled", a, 2, api.State{Ip: 3, Stack: nums(5, 21)}, api.State{Ip: 4, Stack: nums(5, 21)})
	expect(t, "Registers", c.Registers(), 2)
	s, done := c.Run(api.State{Ip: 3, Stack: nums(5, 21)})
	expect(t, "doubled", alike(s, api.State{Ip: 4, Stack: nums(5, 42)}), true)
	expect(t, "done", done, eval.Done{Steps: 2})
}

// P2001: nothing is alive where nothing has a value.
func TestNothingAlive(t *testing.T) {
	expectAlive(t, "no instructions", 0, nil)
	c := expectCode(t, "the least trace", api.Trace{Outs: []api.Out{{Steps: 1}}}, 0, api.State{}, api.State{Ip: 1})
	expect(t, "Registers", c.Registers(), 0)
	expect(t, "Len", c.Len(), 0)
}

// P2001: one that nobody uses is alive at its own instruction alone.
func TestUnused(t *testing.T) {
	for _, i := range all(con(5), slot(1), behind(1), ask()) {
		what := ir.Text(i)
		expectAlive(t, what, 1, nil, i)
		expectAlive(t, what+", often", 1, nil, i, i, i, i)
		expectAlive(t, what+" ahead of others", 1, nums(3), i, i, i, i)
		expectAlive(t, what+" beside one that is alive", 2, nums(0), con(1), i, i)
	}
	for _, op := range slices.Concat(twos, ones, nums(api.Div, api.Mod)) {
		expectAlive(t, "what is reckoned", 2, nil, slot(0), calc(op, 0, 0), calc(op, 0, 0))
	}
	expectAlive(t, "a Load", 2, nil, slot(0), load(0), load(0))
}

// P2001: a value is alive from its instruction on to the last one that uses it.
func TestUsed(t *testing.T) {
	for _, i := range users(0, 1) {
		what := ir.Text(i)
		both := 2
		if ir.Gives(i.Op) {
			both = 3
		}
		expectAlive(t, what, both, nil, slot(0), slot(1), i)
		expectAlive(t, what+" and others behind", both, nums(3), slot(0), slot(1), i, con(1), con(2))
		// What others give ahead of its last use is alive beside it, just where it is given.
		expectAlive(t, what+" and others ahead", 3, nil, slot(0), slot(1), con(1), con(2), i)
		expectAlive(t, what+", twice", max(both, 3), nil, slot(0), slot(1), i, con(1), i)
	}
	for _, i := range users(0, 0) {
		what := ir.Text(i)
		both := 1
		if ir.Gives(i.Op) {
			both = 2
		}
		expectAlive(t, what, both, nil, slot(0), i)
		expectAlive(t, what+" of one that isn't the last", 2, nil, slot(0), slot(1), i)
		expectAlive(t, what+" and others ahead", 2, nil, slot(0), con(1), con(2), i)
	}
	expectAlive(t, "each uses the one ahead", 2, nums(4), slot(0), calc(api.Add, 0, 0), calc(api.Add, 1, 1), calc(api.Negate, 2, 0), calc(api.Mul, 3, 3))
	expectAlive(t, "a sum of sums", 4, nums(6), slot(0), slot(1), calc(api.Add, 0, 1), behind(0), behind(1), calc(api.Add, 3, 4), calc(api.Add, 2, 5))
	expectAlive(t, "a sum of many", 3, nums(6), slot(0), slot(1), calc(api.Add, 0, 1), behind(0), calc(api.Sub, 2, 3), behind(1), calc(api.Mul, 4, 5))
}

// users are instructions of all kinds that use a place, and another one if they use two.
func users(p, q int) []api.Ins {
	l := all(load(p), put(p, q), must(p), mustNot(p), equal(p, q), say(p), tell(p), calc(api.Div, p, q), calc(api.Mod, p, q))
	if p != q {
		// Those that use one alone would leave the other one unused.
		l = all(put(p, q), put(q, p), equal(p, q), equal(q, p), calc(api.Div, p, q), calc(api.Mod, q, p))
	}
	for _, op := range twos {
		l = append(l, calc(op, p, q), calc(op, q, p))
	}
	if p == q {
		for _, op := range ones {
			l = append(l, calc(op, p, q))
		}
	}
	return l
}

// P2001: what an instruction doesn't ask isn't used by it: the Const is alive at its own place alone.
func TestNoNames(t *testing.T) {
	for _, op := range ones {
		expectAlive(t, "C of an operation of one", 2, nil, con(5), slot(0), calc(op, 1, 0))
	}
	for _, i := range []api.Ins{{Op: api.Const, B: 0, C: 0}, {Op: api.Slot, B: 0, C: 0}, {Op: api.Behind}, {Op: api.Ask}} {
		expectAlive(t, ir.Text(i), 1, nil, con(5), i)
	}
	for _, i := range []api.Ins{{Op: api.Load, B: 1, C: 0}, {Op: api.Must, B: 1, C: 0}, {Op: api.Say, B: 1, C: 0}, {Op: api.Tell, B: 1, C: 0}} {
		alive := 1
		if i.Op == api.Load {
			alive = 2
		}
		expectAlive(t, ir.Text(i), alive, nil, con(5), slot(0), i)
	}
	for _, v := range edges() {
		expectAlive(t, "wild numbers", 2, nums(1), con(v), api.Ins{Op: api.Calc, A: api.Invert, C: v, X: v}, api.Ins{Op: api.Const, A: v, B: v, C: v, X: v})
	}
}

// P2001: a value is alive up to the last instruction that names an exit in which it stands, on either stack.
func TestExits(t *testing.T) {
	for _, i := range all(must(0), mustNot(0), equal(0, 0), say(0), tell(0), put(0, 0), load(0), calc(api.Div, 0, 0), calc(api.Mod, 0, 0)) {
		what := ir.Text(i)
		more := 0
		if ir.Gives(i.Op) {
			more = 1
		}
		for _, l := range [][]int{nums(1), nums(1, 1), nums(2, 1), nums(1, 2, 1)} {
			// Places 1 and 2 stand in the exit; 3 is alive at its place alone, 0 is used at the end.
			alive := 2 + more
			if slices.Contains(l, 2) {
				alive = 3 + more
			}
			a := bare(nil, slot(0), behind(0), behind(1), i)
			a.Outs[spare].Stack = l
			expectCode(t, what+" that names another exit", a, 2+more/2, states()...)
			a.Ins[3].X = spare
			expectCode(t, what+" with a Stack", a, max(alive, 3), states()...)
			a.Outs[spare].Back, a.Outs[spare].Stack = l, nil
			expectCode(t, what+" with a Back", a, max(alive, 3), states()...)
		}
	}
}

// P2001: a value that stands in an exit is alive up to who names it last, and beside what is given on the way there.
func TestExitsLast(t *testing.T) {
	for _, late := range all(by(spare, must(0)), by(spare, put(0, 0)), api.Ins{Op: api.Put, A: spare, X: aside}) {
		a := bare(nil, slot(0), con(1), con(2), con(3), late, con(4), con(5))
		a.Outs[spare].Stack, a.Outs[spare].Back = nums(1), nums(2)
		expectCode(t, "late", a, 4, states()...)
		a.Ins[4], a.Ins[3] = con(3), late
		expectCode(t, "ahead of another one", a, 3, states()...)
		a.Ins[5] = late
		expectCode(t, "twice", a, 4, states()...)
		a.Ins[6], a.Outs[end].Stack = calc(api.Add, 4, 4), nums(6)
		expectCode(t, "twice, and others on the way", a, 4, states()...)
	}
}

// P2001: both exits of a Put count.
func TestPut(t *testing.T) {
	for x := range 4 {
		for y := range 4 {
			a := bare(nil, slot(0), slot(1), behind(0), behind(1), con(6), api.Ins{Op: api.Put, A: x, B: 4, C: 4, X: y})
			for k := range a.Outs {
				a.Outs[k].Stack = nums(k)
			}
			// The one at the end is alive, too, and so are all three others where they are given, if they are named.
			named := map[int]bool{x: true, y: true, end: true}
			expectCode(t, "a Put", a, len(named)+1, states()...)
		}
	}
}

// P2001: what lies on a stack at the end is alive to the end.
func TestLast(t *testing.T) {
	expectAlive(t, "one", 2, nums(0), slot(0), con(1), con(2))
	expectAlive(t, "two", 3, nums(0, 1), slot(0), con(1), con(2))
	expectAlive(t, "twice", 2, nums(0, 0, 0), slot(0), con(1), con(2))
	expectAlive(t, "the last one", 1, nums(2), slot(0), con(1), con(2))
	expectAlive(t, "all", 3, nums(2, 0, 1), slot(0), con(1), con(2))
	a := bare(nums(1), slot(0), slot(1), con(2), con(3))
	a.Outs[end].Back = nums(0)
	expectCode(t, "on the return stack", a, 3, states()...)
	// One that is named by a guard, too, is alive to the end all the same.
	a = bare(nums(0), slot(0), by(end, must(0)), con(2), con(3))
	expectCode(t, "named ahead", a, 2, states()...)
	a.Last = hit
	expectCode(t, "named ahead alone", a, 1, states()...)
	a.Last, a.Outs[hit].Stack = hit, nums(2)
	expectCode(t, "others at the end", a, 2, states()...)
}

// P2001: exits that nobody names keep nothing alive, whatever stands in them.
func TestNobodyNames(t *testing.T) {
	a := bare(nil, con(1), con(2), must(1), con(3), must(3))
	for _, n := range append(edges(), 2, 3, 4, 5, 999) {
		a.Outs[spare].Stack, a.Outs[hit].Back = nums(n, 0, n), nums(0, n)
		expectCode(t, "wild places", a, 1, states()...)
	}
}

// P2001: code is left by the exits of its trace, by their numbers, with what is alive there.
func TestLeft(t *testing.T) {
	for _, i := range all(must(own+2), mustNot(own+2), equal(own+2, own), say(own+2), tell(own+1), load(own+2), put(own+2, own), put(own+1, own), calc(api.Div, own, own+2), calc(api.Mod, own, own+2)) {
		for _, v := range append(edges(), 4, 5, 6) {
			for x := range 4 {
				a := trace(nums(0, own, 1), con(v), calc(api.Sub, 0, own), calc(api.Mul, 1, own), i, con(v+1), calc(api.Add, own+4, own))
				for k := range a.Outs {
					if k != end {
						a.Outs[k].Stack, a.Outs[k].Back = nums(own+1, k, own), nums(own+k%3, 2)
					}
				}
				a.Ins[own+3].X = x
				if i.Op == api.Put {
					a.Ins[own+3].A = (x + 1) % 4
				}
				c, is := slots.Make(a, slots.Least(a))
				expect(t, "there is code", is, true)
				for _, s := range states() {
					expectRun(t, ir.Text(i), a, c, s)
					expectRun(t, ir.Text(i), a, c, s, v, 0, 3)
				}
			}
		}
	}
}

// P2001: cells that are watched.
func TestWatched(t *testing.T) {
	a := trace(nums(0), con(3), put(own, 1), con(2), put(own+2, own), ask())
	a.Outs[hit].Stack = nums(1, 0)
	c := expectCode(t, "stores", a, 4, states()...)
	for _, watched := range [][]int{nil, nums(3), nums(2), nums(2, 3), nums(3, 2), nums(9, -1, 2), nums(0, 1)} {
		for _, s := range states() {
			expectRun(t, "watched", a, c, s, watched...)
		}
	}
	s := states()[0]
	left, done := c.Run(s, 2)
	expect(t, "Hit", done, eval.Done{Exit: hit, Steps: 2, Hit: true})
	expect(t, "what is stored", slices.Equal(left.Mem, nums(3, 0, 3, 1, 104)), true)
}

// P2001: bounds: as many instructions, exits and values as may be.
func TestGreatest(t *testing.T) {
	var a api.Trace
	a.Outs = []api.Out{{Ip: 9, Steps: 1}}
	for k := range 500 {
		a.Ins = append(a.Ins, con(k))
	}
	for k := range 500 {
		a.Ins = append(a.Ins, api.Ins{Op: api.Must, B: (k + 499) % 500})
	}
	c := expectCode(t, "500 alive", a, 500, api.State{}, api.State{Ip: 2})
	expect(t, "Registers", c.Registers(), 500)
	for k := range 1000 {
		a.Ins[k] = con(k)
	}
	expectCode(t, "1000 unused", a, 1, api.State{})
	for k := 1; k < 1000; k++ {
		a.Ins[k] = calc(api.Add, k-1, 0)
	}
	a.Grow, a.Outs[0].Stack = 1, nums(999)
	a.Ins[0] = con(3)
	s, _ := expectCode(t, "1000 sums", a, 3, api.State{}).Run(api.State{})
	expect(t, "3000", slices.Equal(s.Stack, nums(3000)), true)
	a.Ins = append(a.Ins, con(1))
	expectNone(t, "1001 instructions", a)
	a = api.Trace{Slots: 48, Grow: 48, Backs: 48, GrowBack: 48}
	for k := range 48 {
		a.Ins = append(a.Ins, slot(k), behind(k), con(k), con(-k))
	}
	for range 300 {
		a.Outs = append(a.Outs, api.Out{Ip: 5, Steps: 3})
	}
	a.Last = 299
	for k := range 96 {
		a.Outs[299].Stack, a.Outs[299].Back = append(a.Outs[299].Stack, 2*k), append(a.Outs[299].Back, 191-2*k)
	}
	expectCode(t, "all of both stacks", a, 192)
	a.Grow, a.GrowBack = 0, 0
	a.Outs[299].Stack, a.Outs[299].Back = a.Outs[299].Stack[:48], a.Outs[299].Back[:48]
	full := api.State{}
	for k := range 48 {
		full.Stack, full.Back = append(full.Stack, 100+k), append(full.Back, 200+k)
	}
	expectCode(t, "both stacks full", a, 96, full)
	a.Outs = append(a.Outs, api.Out{})
	expectNone(t, "301 exits", a)
}
