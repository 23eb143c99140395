package field_test

import (
	"maps"
	"math"
	"slices"
	"testing"

	"holloway/api"
	"holloway/field"
)

const (
	least    = math.MinInt
	greatest = math.MaxInt
)

// outside are addresses of which a memory of n cells has none.
func outside(n int) []int {
	return []int{
		least, least + 1, least + n, -1 << 32, -(1 << 32) + 1, -api.MaxMem, -n - 1, -2, -1,
		n, n + 1, 2*n + 1, api.MaxMem, api.MaxMem + 1, 1 << 31, 1 << 32, 1<<32 + 1, 1 << 62, greatest - 1, greatest,
	}
}

// list makes the cells 1, 3, 5 .., n of them.
func list(n int) []int {
	l := make([]int, n)
	for i := range l {
		l[i] = 2*i + 1
	}
	return l
}

// expectList holds a list against what is wanted; one that is nil has nothing.
func expectList(t *testing.T, what string, got, want []int) {
	t.Helper()
	if !slices.Equal(got, want) {
		t.Errorf("%s: %v, not %v", what, got, want)
	}
}

// expect holds all that a memory tells against its cells and those that are changed.
func expect(t *testing.T, what string, f *field.Field, cells, changed []int) {
	t.Helper()
	if f.Len() != len(cells) {
		t.Errorf("%s: Len() = %d, not %d", what, f.Len(), len(cells))
	}
	expectList(t, what+": All()", f.All(), cells)
	expectList(t, what+": Changed()", f.Changed(), changed)
	for a, want := range cells {
		expectLoad(t, what, f, a, want, true)
	}
}

// expectLoad holds one cell against what is wanted.
func expectLoad(t *testing.T, what string, f *field.Field, a, want int, is bool) {
	t.Helper()
	if v, got := f.Load(a); v != want || got != is {
		t.Errorf("%s: Load(%d) = %d, %t, not %d, %t", what, a, v, got, want, is)
	}
}

// store stores into a cell that must be there.
func store(t *testing.T, f *field.Field, a, v int) {
	t.Helper()
	if !f.Store(a, v) {
		t.Errorf("Store(%d, %d) = false", a, v)
	}
}

// P401: the chapter's example.
func TestExample(t *testing.T) {
	f := field.New(4)
	store(t, f, 2, 7)
	expect(t, "New(4), Store(2, 7)", f, []int{0, 0, 7, 0}, []int{2})
}

// P401: New makes so many zeros, at least none and at most MaxMem, none of which is changed.
func TestNew(t *testing.T) {
	for _, c := range []struct{ n, want int }{
		{least, 0}, {-1 << 32, 0}, {-api.MaxMem, 0}, {-1, 0}, {0, 0}, {1, 1}, {2, 2}, {4, 4}, {500, 500},
		{api.MaxMem - 1, api.MaxMem - 1}, {api.MaxMem, api.MaxMem}, {api.MaxMem + 1, api.MaxMem},
		{1 << 32, api.MaxMem}, {1<<32 + 5, api.MaxMem}, {greatest, api.MaxMem},
	} {
		f := field.New(c.n)
		if f == nil {
			t.Fatalf("New(%d) = nil", c.n)
		}
		expect(t, "New", f, make([]int, c.want), nil)
	}
}

// P401: Of makes a memory of the first MaxMem cells of a list, none of which is changed.
func TestOf(t *testing.T) {
	for _, n := range []int{0, 1, 2, 3, 500, api.MaxMem - 1, api.MaxMem, api.MaxMem + 1, 2 * api.MaxMem} {
		l := list(n)
		f := field.Of(l...)
		if f == nil {
			t.Fatalf("Of %d cells is nil", n)
		}
		expect(t, "Of", f, list(n)[:min(n, api.MaxMem)], nil)
		expectList(t, "what was handed in", l, list(n))
	}
	expect(t, "Of(nil...)", field.Of([]int(nil)...), nil, nil)
	expect(t, "the ends", field.Of(least, -1, 0, greatest), []int{least, -1, 0, greatest}, nil)
}

// P401: a memory keeps nothing of the list that it was made of, and stores nothing into it.
func TestOfKeepsNothing(t *testing.T) {
	l := list(8)
	f := field.Of(l[:4]...)
	l[1] = 50
	expect(t, "the list changed", f, list(4), nil)
	store(t, f, 0, 60)
	store(t, f, 3, 70)
	expectList(t, "the memory changed", l, []int{1, 50, 5, 7, 9, 11, 13, 15})
}

// P401: what is stored is what is loaded, of that cell alone.
func TestStoreAndLoad(t *testing.T) {
	const n = 5
	for a := range n {
		for _, v := range []int{least, -1, 0, 1, 7, 1 << 32, greatest} {
			f := field.Of(list(n)...)
			want := list(n)
			want[a] = v
			store(t, f, a, v)
			expect(t, "stored once", f, want, []int{a})
			want[a] = v - 1
			store(t, f, a, v-1)
			expect(t, "stored twice", f, want, []int{a})
		}
	}
}

// P401: the first cell and the last one of the greatest memory are there, the one behind it is not.
func TestGreatest(t *testing.T) {
	f := field.New(api.MaxMem)
	want := make([]int, api.MaxMem)
	want[0], want[api.MaxMem-1] = 8, 9
	store(t, f, api.MaxMem-1, 9)
	store(t, f, 0, 8)
	if f.Store(api.MaxMem, 7) {
		t.Errorf("Store(%d, 7) = true", api.MaxMem)
	}
	expectLoad(t, "behind the last", f, api.MaxMem, 0, false)
	expect(t, "both ends", f, want, []int{0, api.MaxMem - 1})
}

// P401: where there is no cell nothing is loaded, nothing stored, and nothing is changed.
func TestNoSuchCell(t *testing.T) {
	for _, n := range []int{0, 1, 4, 500, api.MaxMem} {
		f := field.Of(list(n)...)
		var changed []int
		if n > 0 {
			store(t, f, n-1, 2*n-1)
			changed = []int{n - 1}
		}
		for _, a := range outside(n) {
			expectLoad(t, "no such cell", f, a, 0, false)
			if f.Store(a, 77) {
				t.Errorf("%d cells: Store(%d, 77) = true", n, a)
			}
		}
		expect(t, "no such cell", f, list(n), changed)
	}
}

// P401: a load changes nothing.
func TestLoadChangesNothing(t *testing.T) {
	f := field.Of(list(4)...)
	for range 3 {
		expect(t, "loaded", f, list(4), nil)
	}
}

// P401: the cells that changed are told rising, each once, in whatever order and however often something was stored.
func TestChanged(t *testing.T) {
	for _, c := range []struct{ stores, want []int }{
		{nil, nil},
		{[]int{0}, []int{0}},
		{[]int{9}, []int{9}},
		{[]int{0, 1, 2}, []int{0, 1, 2}},
		{[]int{2, 1, 0}, []int{0, 1, 2}},
		{[]int{5, 5, 5}, []int{5}},
		{[]int{5, 3, 5, 3}, []int{3, 5}},
		{[]int{9, 0, 4, 9, 0, 4, 2}, []int{0, 2, 4, 9}},
		{[]int{-1, 3, 10, 1}, []int{1, 3}},
		{[]int{9, 8, 7, 6, 5, 4, 3, 2, 1, 0}, []int{0, 1, 2, 3, 4, 5, 6, 7, 8, 9}},
		{[]int{5, 2, 8, 1, 9, 0, 7, 3, 6, 4, 5, 5}, []int{0, 1, 2, 3, 4, 5, 6, 7, 8, 9}},
	} {
		f := field.New(10)
		for i, a := range c.stores {
			f.Store(a, i)
		}
		expectList(t, "Changed()", f.Changed(), c.want)
		expectList(t, "Changed() again", f.Changed(), c.want)
	}
}

// P401: a cell is changed also where the same was stored, or where what was there comes back.
func TestChangedByTheSame(t *testing.T) {
	f := field.New(3)
	store(t, f, 1, 0)
	expect(t, "0 into 0", f, make([]int, 3), []int{1})
	f = field.Of(list(3)...)
	store(t, f, 2, 5)
	expect(t, "5 into 5", f, list(3), []int{2})
	store(t, f, 0, 9)
	store(t, f, 0, 1)
	expect(t, "there and back", f, list(3), []int{0, 2})
}

// P401: every cell of the greatest memory, from above down, and each twice.
func TestChangedOfAll(t *testing.T) {
	f := field.New(api.MaxMem)
	want := make([]int, api.MaxMem)
	for range 2 {
		for a := api.MaxMem - 1; a >= 0; a-- {
			store(t, f, a, a)
			want[a] = a
		}
	}
	expect(t, "all", f, want, want)
}

// P401: behind Settle nothing is changed, but what is stored from then on.
func TestSettle(t *testing.T) {
	f := field.Of(list(4)...)
	f.Settle()
	expect(t, "settled at once", f, list(4), nil)
	store(t, f, 2, 7)
	store(t, f, 0, 8)
	f.Settle()
	expect(t, "settled", f, []int{8, 3, 7, 7}, nil)
	f.Settle()
	expect(t, "settled twice", f, []int{8, 3, 7, 7}, nil)
	store(t, f, 3, 1)
	store(t, f, 2, 7)
	expect(t, "stored again", f, []int{8, 3, 7, 1}, []int{2, 3})
	f.Store(4, 1)
	f.Settle()
	f.Store(-1, 1)
	expect(t, "no such cell", f, []int{8, 3, 7, 1}, nil)
}

// P401: a copy is alike, but settled; neither knows of what is done to the other.
func TestCopy(t *testing.T) {
	f := field.Of(list(4)...)
	store(t, f, 2, 50)
	c := f.Copy()
	if c == f {
		t.Fatal("Copy() is the memory itself")
	}
	expect(t, "the copy", c, []int{1, 3, 50, 7}, nil)
	expect(t, "what was copied", f, []int{1, 3, 50, 7}, []int{2})
	store(t, c, 3, 60)
	expect(t, "the copy, stored", c, []int{1, 3, 50, 60}, []int{3})
	expect(t, "the other then", f, []int{1, 3, 50, 7}, []int{2})
	store(t, f, 0, 70)
	c.Settle()
	expect(t, "the copy, settled", c, []int{1, 3, 50, 60}, nil)
	expect(t, "the other, stored", f, []int{70, 3, 50, 7}, []int{0, 2})
	store(t, c, 1, 80)
	f.Settle()
	expect(t, "the copy, stored again", c, []int{1, 80, 50, 60}, []int{1})
	expect(t, "the other, settled", f, []int{70, 3, 50, 7}, nil)
}

// P401: copies of copies, of the greatest memory, and of one that has no cells.
func TestCopyOfSizes(t *testing.T) {
	for _, n := range []int{0, 1, 500, api.MaxMem} {
		f := field.Of(list(n)...)
		for range 3 {
			c := f.Copy()
			if c == nil || c == f {
				t.Fatalf("%d cells: no other one", n)
			}
			expect(t, "a copy", c, list(n), nil)
			c.Store(0, 1)
			f = c
		}
	}
	for _, f := range []*field.Field{field.New(0), field.New(-5), field.Of()} {
		if f.Copy() == nil {
			t.Error("a copy of a memory that has no cells is nil")
		}
	}
}

// P401: what was answered shares nothing with the memory, nor with what is answered later.
func TestAnswersAreNew(t *testing.T) {
	f := field.Of(list(4)...)
	store(t, f, 1, 3)
	store(t, f, 3, 7)
	all, changed := f.All(), f.Changed()
	all[0], changed[0] = 90, 91
	// There may be room behind a list: it is nobody else's either.
	_, _ = append(all, 92), append(changed, 93)
	expect(t, "answers changed", f, list(4), []int{1, 3})
	all, changed = f.All(), f.Changed()
	store(t, f, 0, 94)
	store(t, f, 2, 95)
	expectList(t, "All() of before", all, list(4))
	expectList(t, "Changed() of before", changed, []int{1, 3})
	f.Settle()
	store(t, f, 0, 96)
	expectList(t, "Changed() of before it was settled", changed, []int{1, 3})
	expect(t, "the memory", f, []int{96, 3, 95, 7}, []int{0})
}

// P401: memories that were made alike share nothing.
func TestMemoriesAreNew(t *testing.T) {
	l := list(3)
	for _, two := range [][2]*field.Field{{field.New(3), field.New(3)}, {field.Of(l...), field.Of(l...)}} {
		want := two[1].All()
		store(t, two[0], 1, 70)
		expect(t, "the other", two[1], want, nil)
	}
}

// P401: a nil one tells false, 0, none, nil; one that was never made is as a nil one.
func TestNone(t *testing.T) {
	for what, f := range map[string]*field.Field{"nil": nil, "zero": {}, "new": new(field.Field)} {
		for range 2 {
			for _, a := range append(outside(0), 0, 1) {
				expectLoad(t, what, f, a, 0, false)
				if f.Store(a, 5) {
					t.Errorf("%s: Store(%d, 5) = true", what, a)
				}
			}
			expect(t, what, f, nil, nil)
			if f.Copy() != nil {
				t.Errorf("%s: Copy() is not nil", what)
			}
			f.Settle()
		}
	}
}

// model is a memory as it is asked to be.
type model struct {
	cells   []int
	changed map[int]int
}

func (m *model) store(a, v int) bool {
	if a < 0 || a >= len(m.cells) {
		return false
	}
	m.cells[a] = v
	m.changed[a] = 1
	return true
}

// steps does what each number says, to a memory and to its model, and holds one against the other behind each.
func steps(t *testing.T, n int, do []int) {
	t.Helper()
	f, m := field.Of(list(n)...), &model{cells: list(n), changed: map[int]int{}}
	for i, x := range do {
		switch {
		case x == 0:
			f.Settle()
			clear(m.changed)
		case x == 1:
			f = f.Copy()
			clear(m.changed)
		default:
			// One address below the cells, and one beyond them, too.
			a, v := x%(n+2)-1, x/(n+2)
			if got, want := f.Store(a, v), m.store(a, v); got != want {
				t.Errorf("%v: Store(%d, %d) = %t, not %t", do[:i+1], a, v, got, want)
			}
		}
		expect(t, "behind steps", f, m.cells, slices.Sorted(maps.Keys(m.changed)))
		if t.Failed() {
			t.Fatalf("behind %v", do[:i+1])
		}
	}
}

// P401: every short row of calls, in any order.
func TestShortRows(t *testing.T) {
	const kinds, long = 12, 4
	do := make([]int, long)
	for row := range kinds * kinds * kinds * kinds {
		for i := range do {
			do[i], row = row%kinds, row/kinds
		}
		steps(t, 3, do)
	}
}

// P401: long rows of calls, in any order.
func TestLongRows(t *testing.T) {
	x := uint(1)
	for _, n := range []int{0, 1, 2, 7, 40, 300} {
		do := make([]int, 3000)
		for i := range do {
			x = x*6364136223846793005 + 1442695040888963407
			do[i] = int(x>>33) % (3 * (n + 2))
		}
		steps(t, n, do)
	}
}
