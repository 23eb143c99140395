package outer_test

import (
	"fmt"
	"strconv"
	"strings"
	"testing"

	"holloway/api"
	"holloway/digits"
	"holloway/inner"
	"holloway/outer"
	"holloway/words"
)

// stop is a fault of a model, told by a panic.
type stop int

// model is an outer by tables of functions, whose words of control are places that are filled in at the end.
type model struct {
	s           api.State
	list        []api.Word
	here, base  int
	rest        string // of the line
	waits, in   bool   // is there a line, is a word being compiled?
	name        string
	cells       []int
	open        []mark
	out, inside map[string]func()
}

// mark is what is open: its kind, and the place it is about, counted from where the word begins.
type mark struct {
	kind string
	at   int
}

// newModel makes a model of outer.New.
func newModel(n int, in string) *model {
	m := &model{s: inner.Boot(n, in), list: words.New().All(), here: min(n, api.Start), base: 10}
	m.out, m.inside = map[string]func(){}, map[string]func(){}
	m.tables()
	return m
}

// code stops with a code, unless what must hold does.
func (m *model) code(code int, holds bool) {
	if !holds {
		panic(stop(code))
	}
}

// next reads a word: "" at the end.
func (m *model) next() string {
	m.rest = strings.TrimLeftFunc(m.rest, func(r rune) bool { return r <= ' ' })
	n := strings.IndexFunc(m.rest, func(r rune) bool { return r <= ' ' })
	if n < 0 {
		n = len(m.rest)
	}
	word := m.rest[:n]
	m.rest = m.rest[min(n+1, len(m.rest)):]
	return word
}

// until reads up to a text.
func (m *model) until(end string) string {
	text, rest, _ := strings.Cut(m.rest, end)
	m.rest = rest
	return text
}

// named reads a name.
func (m *model) named() string {
	name := m.next()
	m.code(api.NoName, name != "" && len(name) <= 20)
	return name
}

// search tells where in the list a name is; -1, if it is not there.
func (m *model) search(name string) int {
	at := -1
	for i, x := range m.list {
		if strings.ToUpper(x.Name) == strings.ToUpper(name) {
			at = i
		}
	}
	return at
}

// found reads a name, and tells where in the list it is.
func (m *model) found() int {
	at := m.search(m.named())
	m.code(api.NoWord, at >= 0)
	return at
}

// pop takes a number.
func (m *model) pop() int {
	n := len(m.s.Stack)
	m.code(api.Under, n > 0)
	v := m.s.Stack[n-1]
	m.s.Stack = m.s.Stack[:n-1]
	return v
}

// push lays a number on the stack.
func (m *model) push(v int) {
	m.code(api.Over, len(m.s.Stack) < api.MaxStack)
	m.s.Stack = append(m.s.Stack, v)
}

// lay lays cells of the word that is compiled.
func (m *model) lay(cells ...int) {
	m.code(api.NoRoom, m.here+len(m.cells)+len(cells) <= len(m.s.Mem))
	m.cells = append(m.cells, cells...)
}

// add adds a word of cells.
func (m *model) add(name string, cells ...int) {
	m.code(api.NoRoom, len(m.list) < api.MaxWords && m.here+len(cells) <= len(m.s.Mem))
	m.list = append(m.list, api.Word{Name: name, Xt: m.here, Op: -1})
	for _, c := range cells {
		m.s.Mem[m.here] = c
		m.here++
	}
}

// place tells the next place of the word.
func (m *model) place() int { return len(m.cells) }

// close takes what is open, which must be of one of these kinds.
func (m *model) close(kinds string) mark {
	n := len(m.open)
	m.code(api.Unlike, n > 0 && strings.Contains(kinds, m.open[n-1].kind))
	last := m.open[n-1]
	m.open = m.open[:n-1]
	return last
}

// tables fills the tables of own words.
func (m *model) tables() {
	m.out[":"] = func() {
		m.name = m.named()
		m.in, m.cells, m.open = true, nil, nil
	}
	m.out["CONSTANT"] = func() {
		name := m.named()
		m.add(name, api.Lit, m.pop(), api.Exit)
	}
	m.out["VARIABLE"] = func() { m.add(m.named(), api.Lit, m.here+3, api.Exit, 0) }
	m.out["CREATE"] = func() { m.add(m.named(), api.Lit, m.here+3, api.Exit) }
	m.out[","] = func() {
		n := m.pop()
		m.code(api.NoRoom, m.here < len(m.s.Mem))
		m.s.Mem[m.here] = n
		m.here++
	}
	m.out["ALLOT"] = func() {
		n := m.pop()
		m.code(api.NoRoom, n >= -m.here && n <= len(m.s.Mem)-m.here)
		m.here += n
	}
	m.out["HERE"] = func() { m.push(m.here) }
	m.out["'"] = func() { m.push(m.list[m.found()].Xt) }
	m.out["IMMEDIATE"] = func() { m.list[len(m.list)-1].Immediate = true }
	m.out["FORGET"] = func() {
		at := m.found()
		m.code(api.NoWord, m.list[at].Xt >= api.Start)
		m.here, m.list = m.list[at].Xt, m.list[:at]
	}
	m.inside[";"] = func() {
		m.lay(api.Exit)
		m.code(api.Unlike, len(m.open) == 0)
		m.in = false
		m.add(m.name, m.cells...)
	}
	m.inside["[']"] = func() { m.lay(api.Lit, m.list[m.found()].Xt) }
	for name, op := range map[string]int{"EXIT": api.Exit, "I": api.AtBack, "J": api.J, "UNLOOP": api.Unloop} {
		m.inside[name] = func() { m.lay(op) }
	}
	m.inside["RECURSE"] = func() {
		m.code(api.NoAddress, m.here >= api.First)
		m.lay(m.here)
	}
	m.inside["LITERAL"] = func() { m.lay(api.Lit, m.pop()) }
	m.forms()
	m.both()
}

// forms fills in the words of control.
func (m *model) forms() {
	ahead := func(kind string, op int) {
		m.lay(op, 0)
		m.open = append(m.open, mark{kind, m.place() - 1})
	}
	back := func(kind string, op int) { m.lay(op, m.here+m.close(kind).at) }
	m.inside["IF"] = func() { ahead("if", api.Zero) }
	m.inside["ELSE"] = func() {
		last := m.close("if")
		ahead("else", api.Branch)
		m.cells[last.at] = m.here + m.place()
	}
	m.inside["THEN"] = func() { m.cells[m.close("if else").at] = m.here + m.place() }
	m.inside["BEGIN"] = func() { m.open = append(m.open, mark{"begin", m.place()}) }
	m.inside["UNTIL"] = func() { back("begin", api.Zero) }
	m.inside["AGAIN"] = func() { back("begin", api.Branch) }
	m.inside["WHILE"] = func() {
		m.open = append(m.open, m.close("begin"))
		ahead("while", api.Zero)
	}
	m.inside["REPEAT"] = func() {
		last := m.close("while")
		back("begin", api.Branch)
		m.cells[last.at] = m.here + m.place()
	}
	m.inside["DO"] = func() {
		m.lay(api.Do)
		m.open = append(m.open, mark{"do", m.place()})
	}
	m.inside["LOOP"] = func() { back("do", api.Loop) }
	m.inside["+LOOP"] = func() { back("do", api.PlusLoop) }
}

// both fills in what stands in both.
func (m *model) both() {
	for _, table := range []map[string]func(){m.out, m.inside} {
		table["("] = func() { m.until(")") }
		table["\\"] = func() { m.rest = "" }
		table["HEX"] = func() { m.base = 16 }
		table["DECIMAL"] = func() { m.base = 10 }
	}
	char := func() int {
		word := m.next()
		m.code(api.NoName, word != "")
		return int(word[0])
	}
	m.out["CHAR"] = func() { m.push(char()) }
	m.inside["CHAR"] = func() { m.lay(api.Lit, char()) }
	m.out[".\""] = func() {
		text := m.s.Out + m.until("\"")
		m.code(api.OutFull, len(text) <= api.MaxOut)
		m.s.Out = text
	}
	m.inside[".\""] = func() {
		for _, c := range []byte(m.until("\"")) {
			m.lay(api.Lit, int(c), api.Emit)
		}
	}
}

// word does a word.
func (m *model) word(word string) {
	table, other := m.out, m.inside
	if m.in {
		table, other = other, table
	}
	if at := m.search(word); at >= 0 {
		x := m.list[at]
		switch {
		case x.Immediate || !m.in:
			m.s = inner.Enter(m.s, x.Xt)
		case x.Op >= 0:
			m.lay(x.Op)
		default:
			m.code(api.NoAddress, x.Xt >= api.First)
			m.lay(x.Xt)
		}
		return
	}
	if own := table[strings.ToUpper(word)]; own != nil {
		own()
		return
	}
	m.code(api.Only, other[strings.ToUpper(word)] == nil)
	n, is := digits.Get(word, m.base)
	m.code(api.NoWord, is)
	if m.in {
		m.lay(api.Lit, n)
	} else {
		m.push(n)
	}
}

// line does a line, or goes on with the one that waits.
func (m *model) line(text string, fuel int) (code, left int) {
	if !m.waits {
		m.rest, m.waits = text, true
	}
	defer func() {
		switch r := recover().(type) {
		case nil:
		case stop:
			m.waits, m.in = false, false
			m.s.Stack, m.s.Back, m.s.Handler, m.s.Status = nil, nil, 0, api.Done
			code, left = int(r), fuel
		default:
			panic(r)
		}
	}()
	for {
		m.s, fuel = inner.Run(m.s, fuel)
		if m.s.Status == api.Running {
			return 0, fuel
		}
		m.code(m.s.Code, m.s.Status != api.Thrown)
		word := m.next()
		if word == "" {
			m.waits = false
			return 0, fuel
		}
		m.word(word)
	}
}

// look tells what the outer should tell.
func (m *model) look() look { return look{m.s, m.list, m.here, m.in} }

// drawn draws numbers below n, always the same ones.
type drawn uint64

func (d *drawn) below(n int) int {
	*d = *d*6364136223846793005 + 1442695040888963407
	return int(uint64(*d)>>33) % n
}

// pieces are what lines are drawn from.
var pieces = strings.Split(`1|2|3|-1|0|5 6 7|ff|$1F|'a'|dup|drop|swap|over|rot|+|-|*|/|=|0=|min|@|!|+!|>r|r>|r@|emit|.|key|`+
	`a|b|c|d|a b|: a|: b|: c|: D|;|; immediate|; a|constant c|variable d|create a|1 constant b|,|5 ,|1 allot|-1 allot|allot|here|' a|' b|['] a|['] DUP|execute|' a execute|catch|throw|`+
	`immediate|forget a|forget B|forget c|forget d|exit|i|J|unloop|recurse|literal|7 literal|if|else|then|dup if|begin|until|again|while|dup while|repeat|do|loop|+loop|5 0 do|1 +loop|`+
	`( x )|( y|\|." hi"|." a|char x|char|hex|decimal|nowhere|:|constant|'|200 @|7 195 !|192 execute|0 192 !|i + loop|dup 0= until|1 - dup`, "|")

// templates are lines that go through more often.
var templates = strings.Split(`: a dup * ;|: b 0 5 0 do i + loop ;|: c begin dup while 1 - repeat drop ;|: d if a else b then ;|: a 3 ; immediate|: b a literal ;|`+
	`variable d|7 constant c|3 a .|b .|5 c|1 d d|forget a|forget b|: c ['] a catch ;|: a begin again ;|: d recurse ;|: b ." x" 'y' emit ;|create a 1 , 2 , 3 ,|1 2 3|1 2 3 4 5 6 7 8 9 10 11 12 13 14 15 16 17 18 19 20|drop|: a|: b|;`, "|")

// aLine draws a line.
func aLine(d *drawn) string {
	if d.below(3) > 0 {
		return templates[d.below(len(templates))]
	}
	var l []string
	for range d.below(9) {
		l = append(l, pieces[d.below(len(pieces))])
	}
	return strings.Join(l, " ")
}

// P1101, P1102, P1103: many drawn sessions, with little fuel and much, with much room and little.
func TestDrawnSessions(t *testing.T) {
	d := drawn(11)
	codes := map[int]int{}
	for range 3000 {
		n := []int{600, 250, 205, 196, 100}[d.below(5)]
		o, m := outer.New(n, "ab"), newModel(n, "ab")
		var done []string
		for range 25 {
			text, fuel := aLine(&d), []int{3000, 60, 3, 0}[d.below(4)]
			done = append(done, fmt.Sprintf("%q %d", text, fuel))
			what := strconv.Itoa(n) + " cells: " + strings.Join(done, ", ")
			code, left := o.Line(text, fuel)
			wantCode, wantLeft := m.line(text, fuel)
			expectIs(t, what+", code", code, wantCode)
			expectIs(t, what+", left", left, wantLeft)
			expectLook(t, what, lookAt(o), m.look())
			codes[code]++
		}
	}
	for _, c := range []int{0, api.Over, api.Under, api.BackOver, api.NoRoom, api.NoAddress, api.ByZero, api.NoWord, api.Only, api.NoName, api.Unlike} {
		if codes[c] == 0 {
			t.Errorf("the code %d was never met: %v", c, codes)
		}
	}
}

// P1101: Begin, Go, Back and a run beside the outer, in pieces of any size, do what Line does.
func TestByHand(t *testing.T) {
	d := drawn(12)
	for range 600 {
		o, m := outer.New(300, "ab"), newModel(300, "ab")
		for range 20 {
			text := aLine(&d)
			want, _ := m.line(text, 500)
			if m.s.Status == api.Running {
				break // it may never end
			}
			expectIs(t, "Begin", o.Begin(text), true)
			code, runs := o.Go()
			for runs {
				s, _ := inner.Run(o.State(), 1+d.below(9))
				o.Back(s)
				code, runs = o.Go()
			}
			expectIs(t, text, code, want)
			expectLook(t, text, lookAt(o), m.look())
		}
	}
}
