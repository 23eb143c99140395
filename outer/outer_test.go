package outer_test

import (
	"fmt"
	"math"
	"slices"
	"strings"
	"testing"

	"holloway/api"
	"holloway/inner"
	"holloway/outer"
	"holloway/words"
)

// plenty is fuel for every line of these tests that ends.
const plenty = 5000

// look is all that an outer tells of itself.
type look struct {
	state     api.State
	words     []api.Word
	here      int
	compiling bool
}

// lookAt asks an outer for all of it. Copied once more: so what is told of the outer later can't turn it.
func lookAt(o *outer.Outer) look {
	return look{inner.Copy(o.State()), o.Words().All(), o.Here(), o.Compiling()}
}

// text tells it but for the memory, which is long.
func (l look) text() string {
	s := l.state
	s.Mem = nil
	return fmt.Sprintf("%+v %+v here %d compiling %v", s, l.words[min(number, len(l.words)):], l.here, l.compiling)
}

// alike tells whether states are; lists that are nil and empty are.
func alike(a, b api.State) bool {
	return a.Ip == b.Ip && a.Handler == b.Handler && a.Out == b.Out && a.In == b.In && a.Read == b.Read &&
		a.Status == b.Status && a.Code == b.Code &&
		slices.Equal(a.Stack, b.Stack) && slices.Equal(a.Back, b.Back) && slices.Equal(a.Mem, b.Mem)
}

// expectLook holds what is told against what should be.
func expectLook(t *testing.T, what string, got, want look) {
	t.Helper()
	if !alike(got.state, want.state) || !slices.Equal(got.words, want.words) || got.here != want.here || got.compiling != want.compiling {
		t.Fatalf("%s:\n%s, not\n%s\n%v\n%v", what, got.text(), want.text(), got.state.Mem, want.state.Mem)
	}
}

// expectIs holds one answer against what it should be.
func expectIs[T comparable](t *testing.T, what string, got, want T) {
	t.Helper()
	if got != want {
		t.Fatalf("%s: %v, not %v", what, got, want)
	}
}

// expectCells holds a list against what it should be.
func expectCells(t *testing.T, what string, got []int, want ...int) {
	t.Helper()
	if !slices.Equal(got, want) {
		t.Fatalf("%s: %v, not %v", what, got, want)
	}
}

// number is how many words a new dictionary has.
const number = 36

// expectLine does a line that ends, and holds its code against what it should be.
func expectLine(t *testing.T, o *outer.Outer, text string, code int) {
	t.Helper()
	got, left := o.Line(text, plenty)
	if got != code || left == 0 {
		t.Fatalf("%q: %d, %d left, not %d", text, got, left, code)
	}
}

// session does lines without a fault.
func session(t *testing.T, n int, lines ...string) *outer.Outer {
	t.Helper()
	o := outer.New(n, "in")
	for _, x := range lines {
		expectLine(t, o, x, 0)
	}
	return o
}

// laid tells the cells from api.Start on that were laid.
func laid(o *outer.Outer) []int { return o.State().Mem[api.Start:o.Here()] }

// expectFault holds what an outer tells behind a fault of it against what it told ahead of the line: of that
// all but what a fault takes away stays.
func expectFault(t *testing.T, what string, o *outer.Outer, before look) {
	t.Helper()
	before.state.Stack, before.state.Back, before.state.Handler, before.state.Status = nil, nil, 0, api.Done
	before.compiling = false
	expectLook(t, what, lookAt(o), before)
	code, runs := o.Go()
	expectIs(t, what+": Go's code", code, 0)
	expectIs(t, what+": a line waits", runs, false)
}

// full fills the stack.
func full() string { return strings.Repeat("7 ", api.MaxStack) }

// P1101: New has a machine that has done nothing, the words of operations, and Here at Start, or at the end.
func TestNew(t *testing.T) {
	for _, x := range []struct{ n, cells, here int }{
		{math.MinInt, 0, 0}, {-1, 0, 0}, {0, 0, 0}, {1, 1, 1}, {100, 100, 100},
		{191, 191, 191}, {192, 192, 192}, {193, 193, 192}, {600, 600, 192},
		{api.MaxMem, api.MaxMem, 192}, {api.MaxMem + 1, api.MaxMem, 192}, {math.MaxInt, api.MaxMem, 192},
	} {
		o := outer.New(x.n, "some input")
		expectIs(t, "cells", len(o.State().Mem), x.cells)
		expectLook(t, "New", lookAt(o), look{inner.Boot(x.n, "some input"), words.New().All(), x.here, false})
		expectLine(t, o, "10 11", 0) // in base 10
		expectCells(t, "base", o.State().Stack, 10, 11)
	}
}

// P1101: Begin begins a line of at most MaxText bytes where none waits; Go without a line does nothing.
func TestBegin(t *testing.T) {
	for _, x := range []struct {
		text string
		want bool
	}{
		{"", true}, {" ", true}, {"5", true}, {"\n\t\x00", true},
		{strings.Repeat(" ", api.MaxText-1), true}, {strings.Repeat("a", api.MaxText), true},
		{strings.Repeat(" ", api.MaxText+1), false}, {strings.Repeat("\u00e9", api.MaxText/2) + " ", false},
		{strings.Repeat("1 ", api.MaxText), false}, {strings.Repeat("a", 1<<16+1), false},
	} {
		o := outer.New(300, "in")
		before := lookAt(o)
		expectIs(t, "Begin", o.Begin(x.text), x.want)
		expectLook(t, "behind it", lookAt(o), before)
		expectIs(t, "another one", o.Begin(""), !x.want)
	}
	o := outer.New(300, "in")
	code, runs := o.Go()
	expectIs(t, "Go without a line, code", code, 0)
	expectIs(t, "Go without a line, runs", runs, false)
	expectIs(t, "Begin", o.Begin("1 2"), true)
	expectIs(t, "Begin again", o.Begin("3"), false)
	expectIs(t, "Begin again, too long", o.Begin(strings.Repeat(" ", 601)), false)
	code, runs = o.Go()
	expectIs(t, "Go, code", code, 0)
	expectIs(t, "Go, runs", runs, false)
	expectCells(t, "the first line", o.State().Stack, 1, 2)
	expectIs(t, "Begin behind it", o.Begin("nowhere"), true)
	code, runs = o.Go()
	expectIs(t, "Go, code", code, api.NoWord)
	expectIs(t, "Go, runs", runs, false)
	expectIs(t, "Begin behind a fault", o.Begin(""), true)
}

// P1101: Go stands where a word must be run, and goes on behind Back.
func TestGo(t *testing.T) {
	o := session(t, 300, ": sq dup * ;")
	expectIs(t, "Begin", o.Begin("2 3 sq 9 swap 1"), true)
	for _, x := range []struct {
		xt   int
		then []int
	}{{api.Start, []int{2, 9}}, {api.First + 2*api.Swap, []int{2, 9, 9}}} {
		before := o.State()
		for range 3 { // also where nothing was handed back: the machine runs still
			code, runs := o.Go()
			expectIs(t, "code", code, 0)
			expectIs(t, "runs", runs, true)
		}
		s := o.State()
		expectIs(t, "Ip", s.Ip, x.xt)
		expectIs(t, "Status", s.Status, api.Running)
		expectCells(t, "Back", s.Back, 0)
		expectIs(t, "what lay there stays", slices.Equal(s.Stack[:len(before.Stack)], before.Stack), true)
		expectLook(t, "entered", lookAt(o), look{inner.Enter(s, x.xt), o.Words().All(), 195, false})
		s = inner.Step(s)
		o.Back(s)
		code, runs := o.Go()
		expectIs(t, "on its way, code", code, 0)
		expectIs(t, "on its way, runs", runs, true)
		expectLook(t, "on its way", lookAt(o), look{s, o.Words().All(), 195, false})
		s, _ = inner.Run(s, 99)
		expectIs(t, "Status", s.Status, api.Done)
		o.Back(s)
		expectLook(t, "Back alone", lookAt(o), look{s, o.Words().All(), 195, false})
		if x.xt == api.Start {
			expectCells(t, "Stack", o.State().Stack, x.then...)
		}
	}
	code, runs := o.Go()
	expectIs(t, "the end, code", code, 0)
	expectIs(t, "the end, runs", runs, false)
	expectCells(t, "Stack", o.State().Stack, 2, 9, 9, 1)
}

// P1101: Enter takes the return stack and the handler that the word ahead has left.
func TestEnter(t *testing.T) {
	o := session(t, 300)
	s := o.State()
	s.Back, s.Handler, s.Code, s.Stack, s.Status = []int{1, 2, 3}, 7, 9, []int{4, 5}, api.Done
	o.Back(s)
	expectIs(t, "Begin", o.Begin("drop"), true)
	o.Go()
	s = o.State()
	expectCells(t, "Back", s.Back, 0)
	expectCells(t, "Stack", s.Stack, 4, 5)
	expectIs(t, "Handler", s.Handler, 0)
	expectIs(t, "Code", s.Code, 0)
}

// P1101: a machine that is handed back Thrown is a fault of its Code, whatever that is; all but what a fault
// takes away stays.
func TestThrown(t *testing.T) {
	for _, c := range []int{77, -13, api.Over, 1, -1, 0, math.MaxInt, math.MinInt} {
		o := session(t, 300, "hex 1 2 : w 3 ;", ": e 4")
		expectIs(t, "Begin", o.Begin("5 e"), true)
		o.Back(api.State{Status: api.Done, Ip: 3, Handler: 2, Stack: []int{1}, Back: []int{4}, Mem: make([]int, 250), Out: "o", In: "abc", Read: 2})
		s := o.State()
		s.Status, s.Code = api.Thrown, c
		o.Back(s)
		before := lookAt(o)
		code, runs := o.Go()
		expectIs(t, "code", code, c)
		expectIs(t, "runs", runs, false)
		expectFault(t, "thrown", o, before)
		expectLine(t, o, "10", 0)
		expectCells(t, "the base stays", o.State().Stack, 16)
	}
	for _, status := range []int{api.Running, 7, -1} { // what is neither Thrown nor Done is not Done yet
		o := session(t, 300)
		s := o.State()
		s.Status, s.Code = status, 77
		o.Begin("1")
		o.Back(s)
		code, runs := o.Go()
		expectIs(t, "not Done, code", code, 0)
		expectIs(t, "not Done, runs", runs, true)
	}
	o := session(t, 300)
	code, left := o.Line("1 2 3 5 throw 4", 50)
	expectIs(t, "code", code, 5)
	expectIs(t, "left", left, 49) // a fault is a step
	s := o.State()
	expectIs(t, "Ip stays", s.Ip, api.First+2*api.Throw)
	expectIs(t, "Code stays", s.Code, 5)
	expectIs(t, "Status", s.Status, api.Done)
	expectCells(t, "Stack", s.Stack)
	expectCells(t, "Back", s.Back)
	expectLine(t, o, "6", 0)
	expectCells(t, "the line is gone", o.State().Stack, 6)
}

// P1101: Line goes on as long as there is fuel; whatever there is at a time, it comes to the same.
func TestFuel(t *testing.T) {
	lines := []string{
		": sum 0 swap 0 do i + loop ; 10 sum . key . here .",
		": f begin dup while dup . 1 - repeat drop ; immediate 3 f : g 2 [ f ",
		": g 2 f literal f ; 9 : h 3 f ; g . 5 throw 3 .",
		": inf begin again ; 4 constant four four . variable v 7 v +! v @ . 1 0 / 3 .",
		"1 2 + drop",
	}
	whole := outer.New(400, "abc")
	var codes, needs []int
	for _, x := range lines {
		code, left := whole.Line(x, plenty)
		codes, needs = append(codes, code), append(needs, plenty-left)
	}
	for slice := 1; slice < 60; slice++ {
		o := outer.New(400, "abc")
		for i, x := range lines {
			used, code, left := 0, 0, 0
			for text := x; ; text = "nowhere" { // which is not looked at, as long as the line waits
				code, left = o.Line(text, slice)
				used += slice - left
				if o.State().Status != api.Running {
					break
				}
				expectIs(t, "left of what is not done", left, 0)
				expectIs(t, "code of what is not done", code, 0)
				expectIs(t, "Begin", o.Begin(""), false)
			}
			expectIs(t, "code", code, codes[i])
			expectIs(t, "used", used, needs[i])
		}
		expectLook(t, "in slices", lookAt(o), lookAt(whole))
	}
}

// P1101: fuel that is just enough, or not there at all.
func TestLittleFuel(t *testing.T) {
	for _, x := range []struct {
		text       string
		fuel, left int
		stack      []int
		done       bool
	}{
		{"1 2 : w 3 ; 5", 0, 0, []int{1, 2, 5}, true}, // nothing is run: no fuel is needed
		{"4 drop 6", 4, 1, []int{6}, true},
		{"4 drop 6", 3, 0, []int{6}, true}, // just enough; what needs none is done behind it
		{"4 drop 6", 2, 0, nil, false},     // it has dropped, but is not back yet
		{"4 drop 6", 1, 0, nil, false},
		{"4 drop 6", 0, 0, []int{4}, false},
		{"4 drop 6", -9, 0, []int{4}, false},
		{"4 drop 6", math.MinInt, 0, []int{4}, false},
		{"4 drop 6 drop 7", 3, 0, []int{6}, false}, // the next word stands ready
		{"4 drop 6 drop 7", 6, 0, []int{7}, true},
	} {
		what := fmt.Sprint(x.text, ", ", x.fuel)
		o := session(t, 400)
		code, left := o.Line(x.text, x.fuel)
		expectIs(t, what+", code", code, 0)
		expectIs(t, what+", left", left, x.left)
		expectCells(t, what, o.State().Stack, x.stack...)
		expectIs(t, what+", done", o.State().Status == api.Done, x.done)
		expectIs(t, what+", Begin", o.Begin(""), x.done)
	}
}

// P1101: the text of a Line is not looked at where a line waits, be it one that was begun by Begin.
func TestTextIsNotLookedAt(t *testing.T) {
	o := session(t, 400)
	long := strings.Repeat(" ", api.MaxText+9)
	o.Line("1 drop 2", 1)
	code, left := o.Line(long, 0)
	expectIs(t, "goes on without fuel, code", code, 0)
	expectIs(t, "goes on without fuel, left", left, 0)
	expectIs(t, "Status", o.State().Status, api.Running)
	code, left = o.Line(long, 9)
	expectIs(t, "goes on, code", code, 0)
	expectIs(t, "goes on, left", left, 7)
	expectCells(t, "goes on", o.State().Stack, 2)
	expectIs(t, "Begin", o.Begin("3"), true)
	code, left = o.Line("nowhere", 9)
	expectIs(t, "what was begun, code", code, 0)
	expectIs(t, "what was begun, left", left, 9)
	expectCells(t, "what was begun", o.State().Stack, 2, 3)
}

// P1101: a text that is too long, where no line waits, is NoRoom, and nothing.
func TestTooLong(t *testing.T) {
	o := session(t, 300, "1 2 : w 3")
	before := lookAt(o)
	for _, x := range []struct{ fuel, left int }{{5, 5}, {0, 0}, {-5, 0}, {math.MaxInt, math.MaxInt}, {math.MinInt, 0}} {
		code, left := o.Line("; "+strings.Repeat("4 ", 300), x.fuel)
		expectIs(t, "code", code, api.NoRoom)
		expectIs(t, "left", left, x.left)
		expectLook(t, "behind it", lookAt(o), before)
	}
	expectLine(t, o, "; "+strings.Repeat(" ", 598), 0)
	expectIs(t, "just short enough", o.Words().Len(), number+1)
}

// P1101: what is told is new, and what is handed in is not kept.
func TestSharesNothing(t *testing.T) {
	o := session(t, 300, "1 2 : w 3 ;")
	before := lookAt(o)
	spoil := func(s api.State) {
		for _, l := range [][]int{s.Stack, s.Back, s.Mem} {
			for i := range l {
				l[i] = -77
			}
		}
		_ = append(s.Stack, -77)
	}
	s := o.State()
	spoil(s)
	expectLook(t, "State", lookAt(o), before)
	w := o.Words()
	w.Cut(3)
	w.Immediate()
	expectLook(t, "Words", lookAt(o), before)
	w = o.Words()
	expectLine(t, o, ": x ; immediate", 0)
	expectIs(t, "Words, told ahead", w.Len(), number+1)
	s = inner.Boot(280, "")
	s.Stack, s.Back = append(make([]int, 0, 20), 5, 6), []int{8}
	o.Back(s)
	before = lookAt(o)
	spoil(s)
	expectLook(t, "Back", lookAt(o), before)
	s = inner.Boot(280, "")
	s.Stack = append(make([]int, 0, 20), 5, 6)
	o.Back(s)
	expectLine(t, o, "9 8 7 , : y 4 ; 1 drop", 0)
	expectCells(t, "the one that was handed in", s.Stack[:8], 5, 6, 0, 0, 0, 0, 0, 0)
	expectIs(t, "its memory", slices.Equal(s.Mem, inner.Boot(280, "").Mem), true)
	one, other := o.State(), o.State()
	spoil(one)
	expectIs(t, "one and the other", alike(other, o.State()), true)
}

// P1101: a nil outer, and a zero one, have nothing.
func TestNil(t *testing.T) {
	var none *outer.Outer
	for _, o := range []*outer.Outer{none, {}, new(outer.Outer)} {
		o.Back(inner.Boot(10, "x"))
		expectIs(t, "Begin", o.Begin(""), false)
		code, runs := o.Go()
		expectIs(t, "Go, code", code, 0)
		expectIs(t, "Go, runs", runs, false)
		for _, text := range []string{"", "5", strings.Repeat(" ", 601)} {
			code, left := o.Line(text, 50)
			expectIs(t, "Line, code", code, 0)
			expectIs(t, "Line, left", left, 0)
		}
		expectIs(t, "State", alike(o.State(), api.State{}), true)
		expectIs(t, "Here", o.Here(), 0)
		expectIs(t, "Words", o.Words() == nil, true)
		expectIs(t, "Compiling", o.Compiling(), false)
	}
}

// P1101: whatever is handed back, all ends, and nothing panics.
func TestOddMachines(t *testing.T) {
	long := make([]int, 5000)
	for _, s := range []api.State{
		{}, {Status: api.Done}, {Status: 7}, {Status: -1, Stack: long}, {Status: api.Thrown, Code: 3},
		{Status: api.Done, Stack: long, Back: long}, {Status: api.Done, Mem: long, Read: -5}, {Status: api.Done, Read: 99},
		{Status: api.Done, Out: strings.Repeat("o", 5000)}, {Status: api.Running, Ip: -4, Handler: 90, Mem: long, Back: long},
		{Status: api.Done, Mem: long[:100]}, {Status: api.Done, Ip: math.MaxInt, Handler: math.MinInt},
	} {
		for _, text := range []string{
			"", "1 2 +", "key .", ".\" a\"", ": w 1 ; w", "variable v", "1 ,", "here", "0 allot", "-1 allot", "create c", "5 constant f", "forget sq", "sq", "; sq", "5 throw", "' sq execute",
		} {
			for _, ahead := range []string{": sq dup * ;", ": sq dup * ; : open 3"} {
				o := session(t, 300, ahead)
				o.Back(s)
				for range 3 {
					if _, left := o.Line(text, 100); left < 0 || left > 100 {
						t.Fatalf("%q: %d left", text, left)
					}
					o.Go()
				}
			}
		}
	}
}

// P1101, P1103: a memory that is handed back with fewer cells than were laid has no room.
func TestFewerCells(t *testing.T) {
	for _, x := range []struct {
		text string
		code int
	}{
		{"1 ,", api.NoRoom}, {"0 allot", api.NoRoom}, {"1 constant x", api.NoRoom}, {"variable x", api.NoRoom},
		{"create x", api.NoRoom}, {": x ;", api.NoRoom}, {": x 1", api.NoRoom}, {": x dup", api.NoRoom}, {": x then", api.Unlike},
		{"-150 allot 1 ,", 0}, {"-192 allot", 0}, {"-93 allot", 0}, {"-92 allot", 0}, {"-91 allot", api.NoRoom},
	} {
		o := outer.New(300, "")
		o.Back(inner.Boot(100, ""))
		expectLine(t, o, x.text, x.code)
		expectIs(t, "words", o.Words().Len(), number)
	}
	o := session(t, 300, ": w 1 2")
	s := o.State()
	s.Mem = s.Mem[:194]
	o.Back(s)
	expectLine(t, o, ";", api.NoRoom)
	expectIs(t, "words", o.Words().Len(), number)
	expectCells(t, "nothing is laid", o.State().Mem[192:], 0, 0)
}
