package source_test

import (
	"strings"
	"testing"

	"holloway/source"
)

// kinds are the bytes of the short texts: blanks of all kinds, the ends of what is one, and others.
const kinds = " \n\x00!\xff)"

// blanks makes a text of all bytes that are blanks.
func blanks() string {
	var b []byte
	for c := range 33 {
		b = append(b, byte(c))
	}
	return string(b)
}

// one makes a text of one byte.
func one(c int) string { return string([]byte{byte(c)}) }

// model is a text as it is asked to be.
type model struct {
	at   int
	left string
}

// read takes the first n bytes of what is left.
func (m *model) read(n int) string {
	s := m.left[:n]
	m.at, m.left = m.at+n, m.left[n:]
	return s
}

func (m *model) word() (string, bool) {
	m.read(len(m.left) - len(strings.TrimLeft(m.left, blanks())))
	if m.left == "" {
		return "", false
	}
	end := strings.IndexAny(m.left, blanks())
	if end < 0 {
		return m.read(len(m.left)), true
	}
	s := m.read(end)
	m.read(1)
	return s, true
}

func (m *model) until(c byte) (string, bool) {
	end := strings.IndexByte(m.left, c)
	if end < 0 {
		return m.read(len(m.left)), false
	}
	s := m.read(end)
	m.read(1)
	return s, true
}

// expect holds what a text tells of itself against what is wanted, twice: to ask reads nothing.
func expect(t *testing.T, what string, s *source.Source, at int, left string) {
	t.Helper()
	for range 2 {
		if got := s.At(); got != at {
			t.Errorf("%s: At() = %d, not %d", what, got, at)
		}
		if got := s.Left(); got != left {
			t.Errorf("%s: Left() = %.60q, not %.60q", what, got, left)
		}
	}
}

// expectWord reads a word, and holds it against what is wanted; there is one, if it has bytes.
func expectWord(t *testing.T, what string, s *source.Source, want string, at int, left string) {
	t.Helper()
	if got, is := s.Word(); got != want || is != (want != "") {
		t.Errorf("%s: Word() = %.60q, %t, not %.60q", what, got, is, want)
	}
	expect(t, what+": Word()", s, at, left)
}

// expectUntil reads up to a byte, and holds what is read against what is wanted.
func expectUntil(t *testing.T, what string, s *source.Source, c byte, want string, is bool, at int, left string) {
	t.Helper()
	if got, was := s.Until(c); got != want || was != is {
		t.Errorf("%s: Until(%q) = %.60q, %t, not %.60q, %t", what, c, got, was, want, is)
	}
	expect(t, what+": Until", s, at, left)
}

// expectEnd holds it that nothing is left, whatever is asked.
func expectEnd(t *testing.T, what string, s *source.Source, at int) {
	t.Helper()
	for _, c := range []byte{0, ' ', 'a', 255} {
		expectWord(t, what+": at its end", s, "", at, "")
		expectUntil(t, what+": at its end", s, c, "", false, at, "")
	}
}

// P801: the chapter's example.
func TestExample(t *testing.T) {
	s := source.New("( a) b")
	expectWord(t, "example", s, "(", 2, "a) b")
	expectUntil(t, "example", s, ')', "a", true, 4, " b")
	expectWord(t, "example", s, "b", 6, "")
	expectEnd(t, "example", s, 6)
}

// P801: nothing of a new text was read.
func TestNew(t *testing.T) {
	for _, text := range []string{"", " ", "a", " a ", "\x00", "\xff\xfe", "\u20ac 1", strings.Repeat("dup * ", 5000)} {
		s := source.New(text)
		if s == nil {
			t.Fatalf("New(%.60q) = nil", text)
		}
		expect(t, "New", s, 0, text)
	}
}

// P801: each byte by itself, ahead of a word, within it, behind it: those of at most 32 are blanks, no other ones are.
func TestWordBytes(t *testing.T) {
	for c := range 256 {
		b, is := one(c), c <= 32
		for _, x := range []struct {
			text  string
			blank []string // the words, if it is a blank
			other []string // if not
		}{
			{b, nil, []string{b}},
			{b + b, nil, []string{b + b}},
			{b + "a", []string{"a"}, []string{b + "a"}},
			{"a" + b, []string{"a"}, []string{"a" + b}},
			{"a" + b + "z", []string{"a", "z"}, []string{"a" + b + "z"}},
			{"a" + b + b + "z", []string{"a", "z"}, []string{"a" + b + b + "z"}},
			{b + " " + b + "\n" + b, nil, []string{b, b, b}},
			{"a " + b + " z", []string{"a", "z"}, []string{"a", b, "z"}},
			{"\xc3" + b + "\x80", []string{"\xc3", "\x80"}, []string{"\xc3" + b + "\x80"}},
		} {
			want := x.other
			if is {
				want = x.blank
			}
			expectWords(t, x.text, want)
		}
	}
}

// expectWords holds all words of a text against what is wanted.
func expectWords(t *testing.T, text string, want []string) {
	t.Helper()
	s := source.New(text)
	for _, w := range want {
		if got, is := s.Word(); got != w || !is {
			t.Errorf("%.60q: Word() = %.60q, %t, not %.60q", text, got, is, w)
		}
	}
	expectWord(t, text, s, "", len(text), "")
	expectEnd(t, text, s, len(text))
}

// P801: blanks ahead are left out, all of them; of those behind just one is read.
func TestWordAndBlanks(t *testing.T) {
	s := source.New("  one \t two\n\nthree")
	expectWord(t, "blanks", s, "one", 6, "\t two\n\nthree")
	expectWord(t, "blanks", s, "two", 12, "\nthree")
	expectWord(t, "blanks", s, "three", 18, "")
	expectEnd(t, "blanks", s, 18)
	s = source.New("x" + blanks() + "y")
	expectWord(t, "all blanks", s, "x", 2, blanks()[1:]+"y")
	expectWord(t, "all blanks", s, "y", 35, "")
	expectEnd(t, "all blanks", s, 35)
}

// P801: where only blanks are left, all is read, also they.
func TestNoWord(t *testing.T) {
	for _, text := range []string{"", " ", "\n", "\x00", "   ", blanks(), strings.Repeat(" \t\r\n", 5000)} {
		s := source.New(text)
		expectWord(t, "none", s, "", len(text), "")
		expectEnd(t, "none", s, len(text))
		s = source.New("a " + text)
		expectWord(t, "one, then none", s, "a", 2, text)
		expectWord(t, "one, then none", s, "", 2+len(text), "")
		expectEnd(t, "one, then none", s, 2+len(text))
	}
}

// P801: bytes are counted, and asked, not letters: what other alphabets have for a blank is none.
func TestWordsOfOtherAlphabets(t *testing.T) {
	s := source.New("\u00e9\u00a0\u2003x \u3000\u0085 \ufeff")
	expectWord(t, "other alphabets", s, "\u00e9\u00a0\u2003x", 9, "\u3000\u0085 \ufeff")
	expectWord(t, "other alphabets", s, "\u3000\u0085", 15, "\ufeff")
	expectWord(t, "other alphabets", s, "\ufeff", 18, "")
	expectEnd(t, "other alphabets", s, 18)
	s = source.New("\u20ac\u20ac")
	expectUntil(t, "a piece of a letter", s, 0x82, "\xe2", true, 2, "\xac\u20ac")
	expectUntil(t, "a piece of a letter", s, 0xac, "", true, 3, "\u20ac")
	expectUntil(t, "a piece of a letter", s, 0xac, "\xe2\x82", true, 6, "")
	expectEnd(t, "a piece of a letter", s, 6)
}

// P801: up to each byte: the first one that is it, which is read, too; none of the others.
func TestUntilBytes(t *testing.T) {
	for c := range 256 {
		for d := range 256 {
			b, o := one(c), one(d)
			s := source.New(o + b + o + b + b)
			if c == d {
				for at := range 5 {
					expectUntil(t, "alike", s, byte(c), "", true, at+1, strings.Repeat(b, 4-at))
				}
			} else {
				expectUntil(t, "the first", s, byte(c), o, true, 2, o+b+b)
				expectUntil(t, "the second", s, byte(c), o, true, 4, b)
				expectUntil(t, "at once", s, byte(c), "", true, 5, "")
			}
			expectEnd(t, "Until", s, 5)
		}
	}
}

// P801: where the byte is not, all that is left is told beside the false, and all is read.
func TestUntilNone(t *testing.T) {
	var all string
	for c := range 256 {
		all += one(c)
	}
	for c := range 256 {
		text := all[:c] + all[c+1:] + " " + all[:c]
		if c == ' ' {
			text = all[:c] + all[c+1:]
		}
		s := source.New(text)
		expectUntil(t, "none", s, byte(c), text, false, len(text), "")
		expectEnd(t, "none", s, len(text))
	}
	s := source.New("one\"two")
	expectUntil(t, "one", s, '"', "one", true, 4, "two")
	expectUntil(t, "no more", s, '"', "two", false, 7, "")
	expectEnd(t, "no more", s, 7)
	s = source.New("A")
	expectUntil(t, "a small one", s, 'a', "A", false, 1, "")
	expectEnd(t, "a small one", s, 1)
}

// P801: what Until reads begins just where a word ended: behind its one blank; no blank is left out.
func TestWordThenUntil(t *testing.T) {
	s := source.New(" (  a  b )c (d")
	expectWord(t, "a remark", s, "(", 3, " a  b )c (d")
	expectUntil(t, "a remark", s, ')', " a  b ", true, 10, "c (d")
	expectWord(t, "a remark", s, "c", 12, "(d")
	expectUntil(t, "a remark", s, '(', "", true, 13, "d")
	expectWord(t, "a remark", s, "d", 14, "")
	s = source.New("a  b")
	expectWord(t, "blanks", s, "a", 2, " b")
	expectUntil(t, "blanks", s, ' ', "", true, 3, "b")
	expectUntil(t, "blanks", s, ' ', "b", false, 4, "")
	expectEnd(t, "blanks", s, 4)
	s = source.New("\\ a ( b")
	expectWord(t, "a line", s, "\\", 2, "a ( b")
	expectUntil(t, "a line", s, '\n', "a ( b", false, 7, "")
	expectEnd(t, "a line", s, 7)
}

// P801: texts that were made alike know nothing of one another.
func TestSourcesAreNew(t *testing.T) {
	const text = "a b c"
	one, other := source.New(text), source.New(text)
	expectWord(t, "the one", one, "a", 2, "b c")
	expect(t, "the other", other, 0, text)
	expectUntil(t, "the other", other, 'x', text, false, 5, "")
	expectWord(t, "the one", one, "b", 4, "c")
	expect(t, "a third", source.New(text), 0, text)
}

// P801: a nil one tells false, 0, ""; one that was never made is as a nil one.
func TestNone(t *testing.T) {
	for what, s := range map[string]*source.Source{"nil": nil, "zero": {}, "new": new(source.Source)} {
		expect(t, what, s, 0, "")
		expectEnd(t, what, s, 0)
	}
}

// P801: long texts, of one word, of many, of one blank at the end.
func TestLongTexts(t *testing.T) {
	const n = 1 << 20
	long := strings.Repeat("x", n)
	s := source.New(long)
	expectWord(t, "one word", s, long, n, "")
	expectEnd(t, "one word", s, n)
	s = source.New(strings.Repeat(" ", n) + long + " ")
	expectWord(t, "blanks ahead", s, long, 2*n+1, "")
	expectEnd(t, "blanks ahead", s, 2*n+1)
	s = source.New(long + ")" + long)
	expectUntil(t, "far away", s, ')', long, true, n+1, long)
	expectUntil(t, "not there", s, ')', long, false, 2*n+1, "")
	text := strings.Repeat("ab ", n)
	s = source.New(text)
	for i := range n {
		if w, is := s.Word(); w != "ab" || !is || s.At() != 3*i+3 || len(s.Left()) != len(text)-s.At() {
			t.Fatalf("word %d = %q, %t, at %d", i, w, is, s.At())
		}
	}
	expectEnd(t, "many words", s, 3*n)
}

// steps does what each number says to a text, and holds it against its model: 0 reads a word, others read up to a byte of kinds.
func steps(t *testing.T, text string, do []int) {
	t.Helper()
	s, m := source.New(text), &model{left: text}
	for i, x := range do {
		if x %= len(kinds) + 1; x == 0 {
			want, _ := m.word()
			expectWord(t, "a row", s, want, m.at, m.left)
		} else {
			c := kinds[x-1]
			want, is := m.until(c)
			expectUntil(t, "a row", s, c, want, is, m.at, m.left)
		}
		if t.Failed() {
			t.Fatalf("of %.60q, behind %v", text, do[:i+1])
		}
	}
	expect(t, "a row", s, m.at, m.left)
}

// digits makes a number's digits, n of them, each below base.
func digits(x, n, base int) []int {
	l := make([]int, n)
	for i := range l {
		l[i], x = x%base, x/base
	}
	return l
}

// power tells how many rows of n digits below base there are.
func power(base, n int) int {
	rows := 1
	for range n {
		rows *= base
	}
	return rows
}

// P801: every short row of calls, in any order, to every short text.
func TestShortRows(t *testing.T) {
	const calls = len(kinds) + 1
	for long := range 5 {
		for x := range power(len(kinds), long) {
			var text string
			for _, d := range digits(x, long, len(kinds)) {
				text += kinds[d : d+1]
			}
			for row := range power(calls, 3) {
				steps(t, text, digits(row, 3, calls))
			}
		}
	}
}

// P801: long rows of calls, in any order, to texts of all bytes, and to those of the short ones alone.
func TestLongRows(t *testing.T) {
	x := uint(1)
	draw := func(below int) int {
		x = x*6364136223846793005 + 1442695040888963407
		return int(x>>33) % below
	}
	for i := range 2000 {
		text := make([]byte, draw(600))
		for j := range text {
			text[j] = byte(draw(256))
			if i%2 == 0 {
				text[j] = kinds[draw(len(kinds))]
			}
		}
		do := make([]int, 1+draw(300))
		for j := range do {
			do[j] = draw(1 << 20)
			if i%3 == 0 {
				do[j] = 0
			}
		}
		steps(t, string(text), do)
	}
}
