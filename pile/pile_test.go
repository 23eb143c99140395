package pile_test

import (
	"math"
	"slices"
	"testing"

	"holloway/pile"
)

const (
	least    = math.MinInt
	greatest = math.MaxInt
	end      = 1000 // cells of the greatest stack, as the chapter says
)

// list makes the cells 1, 3, 5 .., n of them.
func list(n int) []int {
	l := make([]int, n)
	for i := range l {
		l[i] = 2*i + 1
	}
	return l
}

// outside are numbers that are not 0 to n.
func outside(n int) []int {
	return []int{
		least, least + 1, least + n, -1 << 32, -(1 << 32) + 1, -end, -n - 1, -2, -1,
		n + 1, n + 2, 2*n + 1, end + 1, 1 << 31, 1 << 32, 1<<32 + 1, 1 << 62, greatest - n, greatest - 1, greatest,
	}
}

// expectList holds a list against what is wanted; one that is nil has nothing.
func expectList(t *testing.T, what string, got, want []int) {
	t.Helper()
	if !slices.Equal(got, want) {
		t.Errorf("%s: %v, not %v", what, got, want)
	}
}

// expectIs holds what a call tells of whether it could be against what is wanted.
func expectIs(t *testing.T, what string, got, want bool) {
	t.Helper()
	if got != want {
		t.Errorf("%s: %t, not %t", what, got, want)
	}
}

// expectPeek holds one cell against what is wanted.
func expectPeek(t *testing.T, what string, p *pile.Pile, k, want int, is bool) {
	t.Helper()
	if v, got := p.Peek(k); v != want || got != is {
		t.Errorf("%s: Peek(%d) = %d, %t, not %d, %t", what, k, v, got, want, is)
	}
}

// expectPop holds the cells that are taken against what is wanted.
func expectPop(t *testing.T, what string, p *pile.Pile, n int, want []int, is bool) {
	t.Helper()
	if l, got := p.Pop(n); !slices.Equal(l, want) || got != is || !got && l != nil {
		t.Errorf("%s: Pop(%d) = %v, %t, not %v, %t", what, n, l, got, want, is)
	}
}

// expect holds all that a stack tells against its cells.
func expect(t *testing.T, what string, p *pile.Pile, cells ...int) {
	t.Helper()
	if p.Len() != len(cells) {
		t.Errorf("%s: Len() = %d, not %d", what, p.Len(), len(cells))
	}
	expectList(t, what+": All()", p.All(), cells)
	for i, want := range cells {
		expectPeek(t, what, p, len(cells)-1-i, want, true)
	}
	expectPeek(t, what, p, -1, 0, false)
	expectPeek(t, what, p, len(cells), 0, false)
}

// expectMost holds how many cells there may be against what is wanted; the stack is left as it was.
func expectMost(t *testing.T, what string, p *pile.Pile, most int) {
	t.Helper()
	all := p.All()
	expectIs(t, what+": Cut(most + 1)", p.Cut(most+1), false)
	expect(t, what, p, all...)
	expectIs(t, what+": Push of one too many", p.Push(make([]int, most-len(all)+1)...), false)
	expect(t, what, p, all...)
	expectIs(t, what+": Push of as many as may be", p.Push(make([]int, most-len(all))...), true)
	expect(t, what, p, append(slices.Clone(all), make([]int, most-len(all))...)...)
	expectIs(t, what+": Push of one", p.Push(1), false)
	expectIs(t, what+": Cut", p.Cut(len(all)), true)
	expect(t, what, p, all...)
}

// P501: the chapter's example.
func TestExample(t *testing.T) {
	p := pile.New(3, 1, 2)
	expectIs(t, "Push(3, 4)", p.Push(3, 4), false)
	expectIs(t, "Push(3)", p.Push(3), true)
	expectPop(t, "then", p, 2, []int{2, 3}, true)
	expect(t, "then", p, 1)
}

// P501: a stack is for 0 to 1,000 cells, the nearer end, and has the first so many of a list, the last one on top.
func TestNew(t *testing.T) {
	for _, c := range []struct{ most, want int }{
		{least, 0}, {-1 << 32, 0}, {-end, 0}, {-1, 0}, {0, 0}, {1, 1}, {2, 2}, {3, 3}, {48, 48}, {500, 500},
		{end - 1, end - 1}, {end, end}, {end + 1, end}, {1 << 32, end}, {1<<32 + 5, end}, {greatest, end},
	} {
		for _, n := range []int{0, 1, 2, 3, 4, 48, 499, 500, 501, end - 1, end, end + 1, 3 * end} {
			l := list(n)
			p := pile.New(c.most, l...)
			if p == nil {
				t.Fatalf("New(%d, ..) = nil", c.most)
			}
			expect(t, "New", p, list(min(n, c.want))...)
			expectMost(t, "New", p, c.want)
			expectList(t, "what was handed in", l, list(n))
		}
	}
	expect(t, "New(2, nil...)", pile.New(2, []int(nil)...))
	expect(t, "the ends", pile.New(4, least, -1, 0, greatest), least, -1, 0, greatest)
}

// P501: a stack keeps nothing of the list that it was made of, and lays nothing into it.
func TestNewKeepsNothing(t *testing.T) {
	l := list(6)
	p := pile.New(6, l[:4]...)
	l[1] = 50
	expect(t, "the list changed", p, list(4)...)
	p.Set(3, 60)
	p.Push(70, 71)
	p.Cut(2)
	expectList(t, "the stack changed", l, []int{1, 50, 5, 7, 9, 11})
}

// P501: Push lays on all cells, the last one on top, or none of them.
func TestPush(t *testing.T) {
	const most = 5
	for have := range most + 1 {
		for n := range 2*most + 1 {
			p := pile.New(most, list(have)...)
			l := list(n)
			want := list(have)
			if have+n <= most {
				want = append(want, l...)
			}
			expectIs(t, "Push", p.Push(l...), have+n <= most)
			expect(t, "Push", p, want...)
			expectList(t, "what was handed in", l, list(n))
		}
	}
	p := pile.New(4)
	for i, v := range []int{least, 0, -1, greatest} {
		expectIs(t, "Push", p.Push(v), true)
		expect(t, "one by one", p, []int{least, 0, -1, greatest}[:i+1]...)
	}
}

// P501: to lay nothing on can always be; far too many never.
func TestPushOfNone(t *testing.T) {
	for _, most := range []int{0, 1, 3, end} {
		for _, p := range []*pile.Pile{pile.New(most), pile.New(most, list(most)...)} {
			want := p.All()
			expectIs(t, "Push()", p.Push(), true)
			expectIs(t, "Push(nil...)", p.Push([]int(nil)...), true)
			expectIs(t, "Push of too many", p.Push(make([]int, 1<<20)...), false)
			expect(t, "Push()", p, want...)
		}
	}
}

// P501: a stack keeps nothing of what was laid on.
func TestPushKeepsNothing(t *testing.T) {
	p := pile.New(8)
	l := list(6)
	p.Push(l[:3]...)
	l[0], l[3] = 50, 60
	expect(t, "the list changed", p, 1, 3, 5)
	p.Set(1, 70)
	p.Push(80)
	expectList(t, "the stack changed", l, []int{50, 3, 5, 60, 9, 11})
}

// P501: Pop takes the topmost cells, the deepest first, or none of them.
func TestPop(t *testing.T) {
	for _, have := range []int{0, 1, 2, 3, 7, end} {
		for n := range min(have, 9) + 1 {
			p := pile.New(have, list(have)...)
			expectPop(t, "Pop", p, n, list(have)[have-n:], true)
			expect(t, "behind Pop", p, list(have-n)...)
			expectMost(t, "behind Pop", p, have)
		}
		p := pile.New(have+3, list(have)...)
		for _, n := range outside(have) {
			expectPop(t, "not so many", p, n, nil, false)
		}
		expect(t, "not so many", p, list(have)...)
		expectPop(t, "all", p, have, list(have), true)
		expectPop(t, "no more", p, 1, nil, false)
		expectPop(t, "none of none", p, 0, nil, true)
		expect(t, "none left", p)
	}
}

// P501: every cell is told and changed by its place from the top; where there is none, nothing is.
func TestPeekAndSet(t *testing.T) {
	const most = 6
	for have := range most + 1 {
		p := pile.New(most, list(have)...)
		want := list(have)
		for k := range have {
			for _, v := range []int{least, 0, -1, greatest, -k} {
				expectIs(t, "Set", p.Set(k, v), true)
				want[have-1-k] = v
				expect(t, "Set", p, want...)
			}
		}
		for _, k := range append(outside(have), have) {
			expectPeek(t, "no such cell", p, k, 0, false)
			expectIs(t, "Set of no such cell", p.Set(k, 77), false)
		}
		expect(t, "no such cell", p, want...)
		// What was not there is not there beneath what comes, either.
		expectIs(t, "Cut", p.Cut(most), true)
		expect(t, "no such cell", p, append(want, make([]int, most-have)...)...)
	}
}

// P501: just so many cells are left, whether there were more, fewer or as many.
func TestCut(t *testing.T) {
	const most = 6
	for have := range most + 1 {
		for n := range most + 1 {
			p := pile.New(most, list(have)...)
			expectIs(t, "Cut", p.Cut(n), true)
			expect(t, "Cut", p, append(list(min(n, have)), make([]int, max(n-have, 0))...)...)
			expectMost(t, "Cut", p, most)
		}
		p := pile.New(most, list(have)...)
		for _, n := range outside(most) {
			expectIs(t, "Cut to what may not be", p.Cut(n), false)
		}
		expect(t, "Cut to what may not be", p, list(have)...)
	}
	p := pile.New(0)
	expectIs(t, "Cut(0)", p.Cut(0), true)
	expectIs(t, "Cut(1)", p.Cut(1), false)
	expect(t, "a stack for none", p)
	p = pile.New(greatest, 5)
	expectIs(t, "Cut to the end", p.Cut(end), true)
	expectIs(t, "Cut beyond the end", p.Cut(end+1), false)
	expect(t, "the greatest", p, append([]int{5}, make([]int, end-1)...)...)
}

// P501: what comes is 0, also where other cells lay before, by whatever they went and came.
func TestZerosCome(t *testing.T) {
	p := pile.New(4, 1, 2, 3, 4)
	p.Cut(1)
	p.Cut(3)
	expect(t, "gone by Cut", p, 1, 0, 0)
	p.Pop(2)
	p.Push(5, 6, 7)
	p.Pop(3)
	p.Cut(4)
	expect(t, "gone by Pop", p, 1, 0, 0, 0)
	p.Set(0, 8)
	p.Set(2, 9)
	p.Cut(2)
	p.Cut(4)
	expect(t, "gone behind Set", p, 1, 9, 0, 0)
	p.Cut(0)
	p.Cut(4)
	expect(t, "gone are all", p, 0, 0, 0, 0)
}

// P501: a copy is alike, for as many cells; neither knows of what is done to the other.
func TestCopy(t *testing.T) {
	p := pile.New(5, list(3)...)
	c := p.Copy()
	if c == p {
		t.Fatal("Copy() is the stack itself")
	}
	expect(t, "the copy", c, 1, 3, 5)
	expectMost(t, "the copy", c, 5)
	c.Push(7)
	c.Set(2, 30)
	expect(t, "what was copied", p, 1, 3, 5)
	p.Cut(1)
	p.Push(50, 60, 70, 80)
	expect(t, "the copy", c, 1, 30, 5, 7)
	expectPop(t, "the copy", c, 3, []int{30, 5, 7}, true)
	expect(t, "what was copied", p, 1, 50, 60, 70, 80)
}

// P501: copies of copies, full ones and empty ones, of every end.
func TestCopyOfSizes(t *testing.T) {
	for _, most := range []int{0, 1, 2, 48, end} {
		for _, have := range []int{0, most / 2, most} {
			p := pile.New(most, list(have)...)
			for range 3 {
				c := p.Copy()
				if c == nil || c == p {
					t.Fatalf("%d of %d cells: no other one", have, most)
				}
				expect(t, "a copy", c, list(have)...)
				expectMost(t, "a copy", c, most)
				p = c
			}
		}
	}
}

// P501: what was answered shares nothing with the stack, nor with what is answered later.
func TestAnswersAreNew(t *testing.T) {
	p := pile.New(8, list(6)...)
	all := p.All()
	all[0] = 90
	// There may be room behind a list: it is nobody else's either.
	_ = append(all, 91)
	expect(t, "All() changed", p, list(6)...)
	all = p.All()
	p.Set(5, 92)
	p.Cut(2)
	expectList(t, "All() of before", all, list(6))
	p = pile.New(8, list(6)...)
	taken, _ := p.Pop(3)
	p.Push(93, 94)
	expectList(t, "what was taken", taken, []int{7, 9, 11})
	taken[0], taken[1] = 95, 96
	_ = append(taken[:1], 97)
	_ = append(taken, 98, 99)
	expect(t, "what was taken changed", p, 1, 3, 5, 93, 94)
	p.Cut(8)
	expect(t, "what comes then", p, 1, 3, 5, 93, 94, 0, 0, 0)
	none, _ := p.Pop(0)
	_ = append(none, 97)
	p.Cut(0)
	_ = append(p.All(), 98)
	p.Cut(1)
	expect(t, "lists of nothing", p, 0)
}

// P501: stacks that were made alike share nothing.
func TestStacksAreNew(t *testing.T) {
	l := list(3)
	one, other := pile.New(4, l...), pile.New(4, l...)
	one.Set(0, 70)
	one.Push(80)
	expect(t, "the other", other, list(3)...)
	other.Cut(4)
	expect(t, "the other", other, 1, 3, 5, 0)
	expect(t, "the one", one, 1, 3, 70, 80)
}

// P501: a nil one tells false, none, 0, nil; one that was never made is as a nil one.
func TestNone(t *testing.T) {
	for what, p := range map[string]*pile.Pile{"nil": nil, "zero": {}, "new": new(pile.Pile)} {
		for range 2 {
			for _, n := range append(outside(0), 0, 1) {
				expectPop(t, what, p, n, nil, false)
				expectPeek(t, what, p, n, 0, false)
				expectIs(t, what+": Set", p.Set(n, 5), false)
				expectIs(t, what+": Cut", p.Cut(n), false)
			}
			expectIs(t, what+": Push()", p.Push(), false)
			expectIs(t, what+": Push(1)", p.Push(1), false)
			expect(t, what, p)
			if p.All() != nil || p.Copy() != nil {
				t.Errorf("%s: All() or Copy() is not nil", what)
			}
		}
	}
}

// model is a stack as it is asked to be.
type model struct {
	most  int
	cells []int
}

func (m *model) push(l ...int) bool {
	if len(m.cells)+len(l) > m.most {
		return false
	}
	m.cells = append(slices.Clone(m.cells), l...)
	return true
}

func (m *model) pop(n int) ([]int, bool) {
	if n < 0 || n > len(m.cells) {
		return nil, false
	}
	taken := m.cells[len(m.cells)-n:]
	m.cells = m.cells[:len(m.cells)-n]
	return taken, true
}

func (m *model) set(k, v int) bool {
	if k < 0 || k >= len(m.cells) {
		return false
	}
	m.cells = slices.Clone(m.cells)
	m.cells[len(m.cells)-1-k] = v
	return true
}

func (m *model) cut(n int) bool {
	if n < 0 || n > m.most {
		return false
	}
	for len(m.cells) < n {
		m.push(0)
	}
	m.cells = m.cells[:n]
	return true
}

// kinds is how many calls a number may say.
const kinds = 5

// step does what a number says to a stack and to its model, and tells the stack behind it; n is one below 0 to one beyond the most.
func step(t *testing.T, p *pile.Pile, m *model, kind, n, v int) *pile.Pile {
	t.Helper()
	switch kind {
	case 0:
		l := make([]int, max(n, 0))
		for i := range l {
			l[i] = v + i
		}
		expectIs(t, "Push", p.Push(l...), m.push(l...))
	case 1:
		want, is := m.pop(n)
		expectPop(t, "a row", p, n, want, is)
	case 2:
		expectIs(t, "Set", p.Set(n, v), m.set(n, v))
	case 3:
		expectIs(t, "Cut", p.Cut(n), m.cut(n))
	case 4:
		p = p.Copy()
	}
	expect(t, "a row", p, m.cells...)
	return p
}

// steps does what each number says to a stack that has so many cells, and holds it against its model behind each.
func steps(t *testing.T, most, have int, do []int) {
	t.Helper()
	p, m := pile.New(most, list(have)...), &model{most: most, cells: list(have)}
	for i, x := range do {
		p = step(t, p, m, x%kinds, x/kinds%(most+3)-1, 100*i+2)
		if t.Failed() {
			t.Fatalf("for %d cells, of %d, behind %v", most, have, do[:i+1])
		}
	}
}

// P501: every short row of calls, in any order, to a stack that is empty, half full and full.
func TestShortRows(t *testing.T) {
	const most, long = 2, 3
	const calls = kinds * (most + 3)
	do := make([]int, long)
	for have := range most + 1 {
		for row := range calls * calls * calls {
			for i := range do {
				do[i], row = row%calls, row/calls
			}
			steps(t, most, have, do)
		}
	}
}

// P501: long rows of calls, in any order.
func TestLongRows(t *testing.T) {
	x := uint(1)
	for _, most := range []int{0, 1, 2, 5, 48, 300, end} {
		do := make([]int, 2000)
		for i := range do {
			x = x*6364136223846793005 + 1442695040888963407
			do[i] = int(x >> 33)
		}
		steps(t, most, most/2, do)
	}
}
