package words_test

import (
	"math"
	"slices"
	"strings"
	"testing"

	"holloway/api"
	"holloway/words"
)

const (
	great = "ABCDEFGHIJKLMNOPQRSTUVWXYZ"
	small = "abcdefghijklmnopqrstuvwxyz"
)

// first are the words of a new dictionary, by hand.
func first() []api.Word {
	return []api.Word{
		{Name: "DUP", Xt: 76, Op: 6},
		{Name: "DROP", Xt: 78, Op: 7},
		{Name: "SWAP", Xt: 80, Op: 8},
		{Name: "OVER", Xt: 82, Op: 9},
		{Name: "ROT", Xt: 84, Op: 10},
		{Name: "+", Xt: 86, Op: 11},
		{Name: "-", Xt: 88, Op: 12},
		{Name: "*", Xt: 90, Op: 13},
		{Name: "/", Xt: 92, Op: 14},
		{Name: "MOD", Xt: 94, Op: 15},
		{Name: "NEGATE", Xt: 96, Op: 16},
		{Name: "AND", Xt: 98, Op: 17},
		{Name: "OR", Xt: 100, Op: 18},
		{Name: "XOR", Xt: 102, Op: 19},
		{Name: "INVERT", Xt: 104, Op: 20},
		{Name: "LSHIFT", Xt: 106, Op: 21},
		{Name: "RSHIFT", Xt: 108, Op: 22},
		{Name: "=", Xt: 110, Op: 23},
		{Name: "<", Xt: 112, Op: 24},
		{Name: "U<", Xt: 114, Op: 25},
		{Name: "0=", Xt: 116, Op: 26},
		{Name: "0<", Xt: 118, Op: 27},
		{Name: "MIN", Xt: 120, Op: 28},
		{Name: "MAX", Xt: 122, Op: 29},
		{Name: "@", Xt: 124, Op: 30},
		{Name: "!", Xt: 126, Op: 31},
		{Name: "+!", Xt: 128, Op: 32},
		{Name: ">R", Xt: 130, Op: 33},
		{Name: "R>", Xt: 132, Op: 34},
		{Name: "R@", Xt: 134, Op: 35},
		{Name: "EMIT", Xt: 146, Op: 41},
		{Name: ".", Xt: 148, Op: 42},
		{Name: "KEY", Xt: 150, Op: 43},
		{Name: "EXECUTE", Xt: 152, Op: 44},
		{Name: "THROW", Xt: 154, Op: 45},
		{Name: "CATCH", Xt: 156, Op: 46},
	}
}

// number is how many words a new dictionary has.
const number = 36

// wrongNames are names that may not be.
func wrongNames() []string {
	return []string{
		"", " ", "\t", "\n", "\x00", "\x1f", " a", "a ", "a b", "\na", "a\x00", "a\x00b",
		strings.Repeat("a", api.MaxName-1) + " ", strings.Repeat("a", api.MaxName+1),
		strings.Repeat("\u00e9", api.MaxName/2) + "a", strings.Repeat("\u20ac", 7), strings.Repeat(" ", api.MaxName),
		strings.Repeat("a", 1<<8+1), strings.Repeat("a", 1<<16+1), strings.Repeat("DUP", 1000),
	}
}

// empty makes a dictionary that has no words.
func empty(t *testing.T) *words.Words {
	t.Helper()
	w := words.New()
	expectIs(t, "Cut(0)", w.Cut(0), true)
	return w
}

// of makes a dictionary of words.
func of(t *testing.T, l ...api.Word) *words.Words {
	t.Helper()
	w := empty(t)
	for _, x := range l {
		add(t, w, x, 0)
	}
	return w
}

// named makes words of names, each at a cell of its own.
func named(names ...string) []api.Word {
	var l []api.Word
	for i, name := range names {
		l = append(l, api.Word{Name: name, Xt: api.Start + i, Op: -1})
	}
	return l
}

// turned makes the letters of one row of a text those of another row; every other byte is left as it is.
func turned(s, from, to string) string {
	b := []byte(s)
	for i, c := range b {
		if at := strings.IndexByte(from, c); at >= 0 {
			b[i] = to[at]
		}
	}
	return string(b)
}

// asGreat makes the letters a to z of a text great.
func asGreat(s string) string { return turned(s, small, great) }

// asSmall makes the letters A to Z of a text small.
func asSmall(s string) string { return turned(s, great, small) }

// expectIs holds what a call tells of whether it could be against what is wanted.
func expectIs(t *testing.T, what string, got, want bool) {
	t.Helper()
	if got != want {
		t.Errorf("%s: %t, not %t", what, got, want)
	}
}

// add adds a word, and holds the code that is told against what is wanted.
func add(t *testing.T, w *words.Words, x api.Word, want int) {
	t.Helper()
	if got := w.Add(x); got != want {
		t.Errorf("Add(%.60q ..) = %d, not %d", x.Name, got, want)
	}
}

// expectFind holds the word of a name against what is wanted.
func expectFind(t *testing.T, what string, w *words.Words, name string, want api.Word, is bool) {
	t.Helper()
	if x, got := w.Find(name); x != want || got != is {
		t.Errorf("%s: Find(%.60q) = %v, %t, not %v, %t", what, name, x, got, want, is)
	}
}

// expect holds all that a dictionary tells against its words.
func expect(t *testing.T, what string, w *words.Words, l []api.Word) {
	t.Helper()
	if w.Len() != len(l) {
		t.Errorf("%s: Len() = %d, not %d", what, w.Len(), len(l))
	}
	if got := w.All(); !slices.Equal(got, l) {
		t.Errorf("%s: All() = %v, not %v", what, got, l)
	}
	last := map[string]api.Word{}
	for _, x := range l {
		last[asGreat(x.Name)] = x
	}
	for name, x := range last {
		expectFind(t, what, w, name, x, true)
		expectFind(t, what, w, asSmall(name), x, true)
	}
}

// P701: the chapter's example.
func TestExample(t *testing.T) {
	expectFind(t, "New()", words.New(), "Dup", api.Word{Name: "DUP", Xt: 76, Op: 6}, true)
}

// P701: a new dictionary has a word for each operation that is said, by their numbers, and no other one.
func TestNew(t *testing.T) {
	if len(first()) != number {
		t.Fatalf("%d words, not %d", len(first()), number)
	}
	w := words.New()
	expect(t, "New()", w, first())
	for _, name := range []string{
		"HALT", "ENDCATCH", "LIT", "BRANCH", "0BRANCH", "EXIT", "(DO)", "(LOOP)", "(+LOOP)", "J", "UNLOOP", "NOP",
		"I", ":", ";", "IF", "DO", "LOOP", "",
	} {
		expectFind(t, "New()", w, name, api.Word{}, false)
		expectFind(t, "New()", w, asSmall(name), api.Word{}, false)
	}
}

// P701: new ones share nothing.
func TestNewAreNew(t *testing.T) {
	v, w := words.New(), words.New()
	expectIs(t, "Immediate()", v.Immediate(), true)
	expectIs(t, "Cut(20)", v.Cut(20), true)
	expectIs(t, "Immediate()", v.Immediate(), true)
	add(t, v, api.Word{Name: "a"}, 0)
	expect(t, "the other", w, first())
	expect(t, "a third", words.New(), first())
}

// P701: each byte by itself, ahead of others, among them and behind them.
func TestRightBytes(t *testing.T) {
	for c := range 256 {
		one := string([]byte{byte(c)})
		for _, name := range []string{
			one, one + one, one + "a", "a" + one, "a" + one + "a", "\xff" + one + "~",
			one + strings.Repeat("a", api.MaxName-1), strings.Repeat("a", api.MaxName-1) + one,
		} {
			expectIs(t, "Right of "+name, words.Right(name), c > 32)
		}
	}
}

// P701: 1 to MaxName bytes; bytes are counted, not letters.
func TestRightLengths(t *testing.T) {
	for n := range 3*api.MaxName + 1 {
		expectIs(t, "Right of letters", words.Right(strings.Repeat("x", n)), n >= 1 && n <= 20)
		expectIs(t, "Right of letters of two bytes", words.Right(strings.Repeat("\u00e9", n)), n >= 1 && n <= 10)
		expectIs(t, "Right of blanks", words.Right(strings.Repeat(" ", n)), false)
	}
	for _, name := range wrongNames() {
		expectIs(t, "Right of a wrong one", words.Right(name), false)
	}
	for _, x := range first() {
		expectIs(t, "Right of "+x.Name, words.Right(x.Name), true)
	}
}

// P701: bytes are alike if they are the same one, or one letter of a to z, great or small.
func TestSameBytes(t *testing.T) {
	for a := range 256 {
		for b := range 256 {
			s, r := string([]byte{byte(a)}), string([]byte{byte(b)})
			want := asGreat(s) == asGreat(r)
			expectIs(t, "Same of bytes", words.Same(s, r), want)
			expectIs(t, "Same behind others", words.Same("aB"+s, "Ab"+r), want)
			expectIs(t, "Same ahead of others", words.Same(s+"\xc3z", r+"\xc3Z"), want)
		}
	}
}

// P701: texts are alike byte by byte, whatever their lengths.
func TestSameTexts(t *testing.T) {
	for _, c := range []struct {
		a, b string
		want bool
	}{
		{"", "", true}, {"", "a", false}, {"", " ", false}, {"", "\x00", false},
		{"dup", "DUP", true}, {"dUp", "DuP", true}, {"dup", "du", false}, {"dup", "dupe", false}, {"dup", "dop", false},
		{"dup", "dup ", false}, {"dup", "dup\x00", false}, {"0=", "0=", true}, {"0=", "0-", false},
		{great, small, true}, {great, small + "a", false}, {great + "[", small + "{", false}, {"@", "`", false},
		{"\u00e9", "\u00e9", true}, {"\u00e9", "\u00c9", false}, {"\xff\xfe", "\xff\xfe", true}, {"\xff", "\xfe", false},
		{"k", "\u212a", false}, {"s", "\u017f", false}, {"i", "\u0131", false}, {"i", "\u0130", false},
		{"\u00df", "ss", false}, {"\u00df", "\u1e9e", false},
		{strings.Repeat("a", 5000), strings.Repeat("A", 5000), true},
		{strings.Repeat("a", 5000), strings.Repeat("A", 4999) + "b", false},
		{"a b\tc", "A B\tC", true},
	} {
		expectIs(t, "Same of "+c.a+" and "+c.b, words.Same(c.a, c.b), c.want)
		expectIs(t, "Same of "+c.b+" and "+c.a, words.Same(c.b, c.a), c.want)
	}
}

// P701: a word that is added is kept just as it is, behind all others.
func TestAdd(t *testing.T) {
	w, l := words.New(), first()
	for _, x := range []api.Word{
		{Name: "sq", Xt: 200, Op: -1},
		{Name: "Sq2", Xt: 210, Op: -1, Immediate: true},
		{Name: "x"},
		{Name: "y", Xt: -5, Op: 1000},
		{Name: "z", Xt: math.MinInt, Op: math.MaxInt},
		{Name: "\x7f\xff!"},
		{Name: strings.Repeat("n", api.MaxName), Xt: math.MaxInt, Op: math.MinInt, Immediate: true},
		{Name: "dup", Xt: 76, Op: 6},
	} {
		add(t, w, x, 0)
		l = append(l, x)
		expect(t, "added", w, l)
	}
}

// P701: a word without a name that may be is not added.
func TestAddNoName(t *testing.T) {
	w := words.New()
	for _, name := range wrongNames() {
		add(t, w, api.Word{Name: name, Xt: 200, Op: -1}, api.NoName)
		expectFind(t, "not added", w, name, api.Word{}, false)
	}
	expect(t, "no names", w, first())
	v := empty(t)
	add(t, v, api.Word{}, api.NoName)
	expect(t, "no name, no words", v, nil)
}

// P701: MaxWords words, and no more; ahead of that the name is looked at.
func TestAddNoRoom(t *testing.T) {
	w, l := words.New(), first()
	for len(l) < api.MaxWords {
		x := api.Word{Name: "w" + strings.Repeat("x", len(l)%api.MaxName/2), Xt: len(l), Op: -1}
		add(t, w, x, 0)
		l = append(l, x)
	}
	for range 3 {
		add(t, w, api.Word{Name: "one-more"}, api.NoRoom)
		add(t, w, api.Word{Name: "dup"}, api.NoRoom)
		for _, name := range wrongNames() {
			add(t, w, api.Word{Name: name}, api.NoName)
		}
		expect(t, "full", w, l)
	}
	c := w.Copy()
	add(t, c, api.Word{Name: "one-more"}, api.NoRoom)
	expectIs(t, "Cut(MaxWords)", w.Cut(api.MaxWords), true)
	add(t, w, api.Word{Name: "one-more"}, api.NoRoom)
	expectIs(t, "Cut(MaxWords - 1)", w.Cut(api.MaxWords-1), true)
	add(t, w, api.Word{Name: "one-more"}, 0)
	add(t, w, api.Word{Name: "two-more"}, api.NoRoom)
	expect(t, "full again", w, append(l[:api.MaxWords-1:api.MaxWords-1], api.Word{Name: "one-more"}))
	expect(t, "the copy", c, l)
}

// P701: from none to MaxWords, each of one name.
func TestAddAll(t *testing.T) {
	w := empty(t)
	var l []api.Word
	for n := range api.MaxWords {
		expect(t, "added", w, l)
		x := api.Word{Name: "same", Xt: n, Op: -1}
		add(t, w, x, 0)
		l = append(l, x)
	}
	expect(t, "all", w, l)
	add(t, w, api.Word{Name: "same"}, api.NoRoom)
	expect(t, "one too many", w, l)
}

// P701: the last one of a name is found, whatever lies behind it; when it goes, the one ahead of it.
func TestFindLast(t *testing.T) {
	l := named("a", "b", "A", "c", "B", "a", "d")
	w := of(t, l...)
	for _, c := range []struct {
		n       int
		a, b, d int // places; -1: none
	}{
		{7, 5, 4, 6}, {6, 5, 4, -1}, {5, 2, 4, -1}, {4, 2, 1, -1}, {3, 2, 1, -1}, {2, 0, 1, -1}, {1, 0, -1, -1}, {0, -1, -1, -1},
	} {
		expectIs(t, "Cut", w.Cut(c.n), true)
		for name, at := range map[string]int{"a": c.a, "b": c.b, "d": c.d} {
			var want api.Word
			if at >= 0 {
				want = l[at]
			}
			expectFind(t, "cut", w, name, want, at >= 0)
			expectFind(t, "cut", w, asGreat(name), want, at >= 0)
		}
	}
}

// P701: a word is found by its whole name alone, letters great or small.
func TestFindWhole(t *testing.T) {
	w := words.New()
	for _, x := range first() {
		for mix := range 1 << len(x.Name) {
			b := []byte(x.Name)
			for i, c := range b {
				if at := strings.IndexByte(great, c); at >= 0 && mix>>i&1 == 1 {
					b[i] = small[at]
				}
			}
			expectFind(t, "mixed", w, string(b), x, true)
		}
		for _, name := range []string{x.Name + " ", " " + x.Name, x.Name + "\x00", x.Name + "?", "?" + x.Name, x.Name + x.Name, x.Name + "\xff"} {
			expectFind(t, "more than a name", w, name, api.Word{}, false)
		}
	}
	for _, name := range append(wrongNames(), "DU", "UP", "\u212aEY", "\u212aey", "\u017fwap", "em\u0131t", "E\u041cIT", "PU\u0414", "?") {
		expectFind(t, "no name", w, name, api.Word{}, false)
	}
}

// P701: other letters and bytes are found as they are.
func TestFindOther(t *testing.T) {
	l := named("\u00e9", "\u00c9", "[", "{", "\xff", "\xdf", "k", "\u212a")
	w := of(t, l...)
	for _, x := range l {
		expectFind(t, "other letters", w, x.Name, x, true)
	}
	for _, name := range []string{"\xc3", "\xa9", "\xfe", "]", "}"} {
		expectFind(t, "none", w, name, api.Word{}, false)
	}
}

// P701: to find a word changes nothing.
func TestFindChangesNothing(t *testing.T) {
	w := words.New()
	for range 3 {
		x, _ := w.Find("dup")
		x.Name, x.Xt, x.Immediate = "turned", 1, true
		w.Find("none")
		expect(t, "found", w, first())
	}
}

// P701: the last word alone is immediate, from then on, also when it is asked twice.
func TestImmediate(t *testing.T) {
	w, l := words.New(), first()
	l[number-1].Immediate = true
	for range 2 {
		expectIs(t, "Immediate()", w.Immediate(), true)
		expect(t, "CATCH", w, l)
	}
	for _, x := range named("a", "b", "c") {
		add(t, w, x, 0)
		l = append(l, x)
		expect(t, "added", w, l)
	}
	expectIs(t, "Immediate()", w.Immediate(), true)
	l[number+2].Immediate = true
	expect(t, "c", w, l)
	expectIs(t, "Cut", w.Cut(number+2), true)
	expect(t, "c went", w, l[:number+2])
	expectIs(t, "Immediate()", w.Immediate(), true)
	l[number+1].Immediate = true
	expect(t, "b", w, l[:number+2])
}

// P701: it is the place that is immediate, not the name; a new word in a place where one was is not.
func TestImmediateByPlace(t *testing.T) {
	l := named("a", "a")
	w := of(t, l...)
	expectIs(t, "Immediate()", w.Immediate(), true)
	l[1].Immediate = true
	expect(t, "the second", w, l)
	expectIs(t, "Cut(1)", w.Cut(1), true)
	expect(t, "the first", w, l[:1])
	add(t, w, api.Word{Name: "b", Xt: 9}, 0)
	expect(t, "another second", w, []api.Word{l[0], {Name: "b", Xt: 9}})
}

// P701: of no words none is immediate.
func TestImmediateNone(t *testing.T) {
	w := empty(t)
	for range 2 {
		expectIs(t, "Immediate()", w.Immediate(), false)
		expect(t, "no words", w, nil)
	}
	add(t, w, api.Word{Name: "a"}, 0)
	expect(t, "a", w, []api.Word{{Name: "a"}})
	expectIs(t, "Immediate()", w.Immediate(), true)
	expect(t, "a", w, []api.Word{{Name: "a", Immediate: true}})
}

// P701: just the first n are left, of every number of words.
func TestCut(t *testing.T) {
	for n := range number + 1 {
		w := words.New()
		expectIs(t, "Cut", w.Cut(n), true)
		expect(t, "cut", w, first()[:n])
		for _, x := range first()[n:] {
			expectFind(t, "gone", w, x.Name, api.Word{}, false)
		}
		expectIs(t, "Cut again", w.Cut(n), true)
		expectIs(t, "Cut of more", w.Cut(n+1), false)
		expect(t, "cut again", w, first()[:n])
		add(t, w, api.Word{Name: "next", Xt: n}, 0)
		expect(t, "added", w, append(first()[:n], api.Word{Name: "next", Xt: n}))
	}
}

// P701: a number that is not 0 to Len cuts nothing.
func TestCutWrong(t *testing.T) {
	for _, left := range []int{0, 1, 2, number} {
		w := words.New()
		expectIs(t, "Cut", w.Cut(left), true)
		for _, n := range []int{
			math.MinInt, math.MinInt + 1, -1 << 32, -1<<32 + 1, -256, -left - 1, -2, -1,
			left + 1, left + 2, 2*left + 1, api.MaxWords, 256, 1 << 16, 1 << 32, 1<<32 + left, math.MaxInt - 1, math.MaxInt,
		} {
			expectIs(t, "Cut of a wrong number", w.Cut(n), false)
		}
		expect(t, "not cut", w, first()[:left])
	}
}

// P701: a copy is alike; neither knows of what is done to the other.
func TestCopy(t *testing.T) {
	w := of(t, named("a", "b", "c")...)
	c := w.Copy()
	if c == w {
		t.Fatal("Copy() is the dictionary itself")
	}
	expect(t, "the copy", c, named("a", "b", "c"))
	expectIs(t, "Immediate()", c.Immediate(), true)
	expect(t, "the other, one immediate", w, named("a", "b", "c"))
	add(t, w, api.Word{Name: "x"}, 0)
	add(t, c, api.Word{Name: "y"}, 0)
	expect(t, "one more", w, append(named("a", "b", "c"), api.Word{Name: "x"}))
	expectFind(t, "the copy", c, "x", api.Word{}, false)
	expectIs(t, "Cut(1)", w.Cut(1), true)
	add(t, w, api.Word{Name: "z"}, 0)
	expect(t, "cut", w, append(named("a"), api.Word{Name: "z"}))
	want := append(named("a", "b", "c"), api.Word{Name: "y"})
	want[2].Immediate = true
	expect(t, "the copy then", c, want)
	expectIs(t, "Cut(0)", c.Cut(0), true)
	expect(t, "the other then", w, append(named("a"), api.Word{Name: "z"}))
}

// P701: copies of copies, of one that is full, and of one that has no words, to which one may be added.
func TestCopyOfSizes(t *testing.T) {
	for _, n := range []int{0, 1, number, api.MaxWords} {
		w, l := words.New(), first()
		for len(l) < n {
			add(t, w, api.Word{Name: "w", Xt: len(l)}, 0)
			l = append(l, api.Word{Name: "w", Xt: len(l)})
		}
		expectIs(t, "Cut", w.Cut(n), true)
		for range 3 {
			c := w.Copy()
			if c == nil || c == w {
				t.Fatalf("%d words: no other one", n)
			}
			expect(t, "a copy", c, l[:n])
			w = c
		}
		want := 0
		if n == api.MaxWords {
			want = api.NoRoom
		}
		add(t, w, api.Word{Name: "one-more"}, want)
	}
}

// P701: what was answered shares nothing with the dictionary, nor with what is answered later.
func TestAnswersAreNew(t *testing.T) {
	w := words.New()
	expectIs(t, "Cut(20)", w.Cut(20), true)
	l := w.All()
	l[0].Name, l[1].Immediate, l[19].Xt = "turned", true, 0
	// There may be room behind a list: it is nobody else's either.
	_ = append(l, api.Word{Name: "behind"})
	add(t, w, api.Word{Name: "a"}, 0)
	_ = append(l, api.Word{Name: "behind"})
	want := append(first()[:20], api.Word{Name: "a"})
	expect(t, "an answer changed", w, want)
	before := w.All()
	expectIs(t, "Immediate()", w.Immediate(), true)
	expectIs(t, "Cut(3)", w.Cut(3), true)
	add(t, w, api.Word{Name: "b"}, 0)
	if !slices.Equal(before, want) {
		t.Errorf("All() of before: %v, not %v", before, want)
	}
}

// P701: a nil one tells NoName, false, none, nil; one that was never made is as a nil one.
func TestNone(t *testing.T) {
	for what, w := range map[string]*words.Words{"nil": nil, "zero": {}, "new": new(words.Words)} {
		for range 2 {
			for _, name := range append(wrongNames(), "x", "dup", strings.Repeat("n", api.MaxName)) {
				add(t, w, api.Word{Name: name, Xt: 200}, api.NoName)
				expectFind(t, what, w, name, api.Word{}, false)
			}
			expectIs(t, what+": Immediate()", w.Immediate(), false)
			for _, n := range []int{math.MinInt, -1, 0, 1, number, math.MaxInt} {
				expectIs(t, what+": Cut", w.Cut(n), false)
			}
			expect(t, what, w, nil)
			if w.Copy() != nil {
				t.Errorf("%s: Copy() is not nil", what)
			}
			if w.All() != nil {
				t.Errorf("%s: All() is not nil", what)
			}
		}
	}
}

// model is a dictionary as it is asked to be.
type model []api.Word

func (m *model) add(x api.Word) int {
	if x.Name == "" || len(x.Name) > 20 {
		return api.NoName
	}
	if len(*m) == 200 {
		return api.NoRoom
	}
	*m = append(slices.Clone(*m), x)
	return 0
}

func (m *model) immediate() bool {
	if len(*m) == 0 {
		return false
	}
	*m = slices.Clone(*m)
	(*m)[len(*m)-1].Immediate = true
	return true
}

func (m *model) cut(n int) bool {
	if n < 0 || n > len(*m) {
		return false
	}
	*m = (*m)[:n]
	return true
}

// steps does what each number says, to a dictionary and to its model, and holds one against the other behind each.
func steps(t *testing.T, w *words.Words, m model, do []int) {
	t.Helper()
	names := []string{"a", "A", "b", "", "dup", strings.Repeat("z", 21), "aa"}
	for i, x := range do {
		switch x % 6 {
		case 0, 1, 2:
			word := api.Word{Name: names[x/6%len(names)], Xt: i, Op: -1}
			add(t, w, word, m.add(word))
		case 3:
			expectIs(t, "Immediate()", w.Immediate(), m.immediate())
		case 4:
			n := len(m) + 1 - x/6%4
			expectIs(t, "Cut", w.Cut(n), m.cut(n))
		case 5:
			w = w.Copy()
		}
		expect(t, "behind steps", w, m)
		if t.Failed() {
			t.Fatalf("behind %v", do[:i+1])
		}
	}
}

// P701: every short row of calls, in any order.
func TestShortRows(t *testing.T) {
	kinds := []int{0, 6, 12, 18, 3, 4, 10, 16, 22, 5}
	do := make([]int, 4)
	for row := range 10_000 {
		for i := range do {
			do[i], row = kinds[row%10], row/10
		}
		steps(t, empty(t), nil, do)
	}
}

// P701: long rows of calls, in any order, also on a dictionary that is nearly full.
func TestLongRows(t *testing.T) {
	x := uint(1)
	for _, n := range []int{0, number, api.MaxWords - 2} {
		w, m := words.New(), model(first())
		for len(m) < n {
			word := api.Word{Name: "w", Xt: len(m)}
			add(t, w, word, m.add(word))
		}
		expectIs(t, "Cut", w.Cut(n), m.cut(n))
		do := make([]int, 600)
		for i := range do {
			x = x*6364136223846793005 + 1442695040888963407
			do[i] = int(x >> 33)
		}
		steps(t, w, m, do)
	}
}
