package weave_test

import (
	"math"
	"slices"
	"strings"
	"testing"

	"holloway/api"
	"holloway/inner"
	"holloway/op"
	"holloway/weave"
)

// forms are all words of control.
var forms = []string{"IF", "ELSE", "THEN", "BEGIN", "UNTIL", "AGAIN", "WHILE", "REPEAT", "DO", "LOOP", "+LOOP"}

// look is all that a weave tells of itself.
type look struct {
	mem        []int
	here, open int
}

// lookAt asks a weave for all of it.
func lookAt(w *weave.Weave) look { return look{w.Mem(), w.Here(), w.Open()} }

// expectLook holds what a weave tells against what it should tell.
func expectLook(t *testing.T, what string, w *weave.Weave, want look) {
	t.Helper()
	got := lookAt(w)
	if !slices.Equal(got.mem, want.mem) || got.here != want.here || got.open != want.open {
		t.Fatalf("%s: %v, not %v", what, got, want)
	}
}

// expectIs holds one answer against what it should be.
func expectIs[T comparable](t *testing.T, what string, got, want T) {
	t.Helper()
	if got != want {
		t.Fatalf("%s: %v, not %v", what, got, want)
	}
}

// lay does words on a weave: a text is a word of control, a number an operation. It tells the first fault.
func lay(w *weave.Weave, words ...any) int {
	for _, x := range words {
		code := 0
		switch v := x.(type) {
		case string:
			code = w.Form(v)
		case int:
			code = w.Op(v)
		}
		if code != 0 {
			return code
		}
	}
	return 0
}

// P1001: New is over a copy of the memory, from here on, or from the nearer end.
func TestNew(t *testing.T) {
	for _, x := range []struct{ cells, here, want int }{
		{0, 0, 0}, {0, 1, 0}, {0, -1, 0}, {1, 0, 0}, {1, 1, 1}, {1, 2, 1},
		{10, -5, 0}, {10, -1, 0}, {10, 0, 0}, {10, 9, 9}, {10, 10, 10}, {10, 11, 10},
		{10, math.MaxInt, 10}, {10, math.MinInt, 0}, {300, 200, 200},
		{api.MaxMem, api.MaxMem, api.MaxMem}, {api.MaxMem + 7, api.MaxMem + 3, api.MaxMem + 3},
	} {
		mem := make([]int, x.cells)
		for a := range mem {
			mem[a] = a - 3
		}
		before := slices.Clone(mem)
		w := weave.New(mem, x.here)
		expectLook(t, "New", w, look{before, x.want, 0})
		if x.want < x.cells {
			expectIs(t, "Op", w.Op(api.Nop), 0)
			expectIs(t, "what was laid", w.Mem()[x.want], api.Nop)
		}
		if !slices.Equal(mem, before) {
			t.Fatalf("New(.., %d) has written into what was handed in", x.here)
		}
		kept := w.Mem()
		for a := range mem {
			mem[a] = 99
		}
		if !slices.Equal(w.Mem(), kept) {
			t.Fatalf("New(.., %d) shares what was handed in", x.here)
		}
	}
	w := weave.New(nil, 3)
	expectLook(t, "New(nil)", w, look{nil, 0, 0})
	expectIs(t, "Op over nil", w.Op(api.Dup), api.NoRoom)
}

// P1001: Op lays every operation that has no operand; NoWord of all others.
func TestOp(t *testing.T) {
	for o := -70; o <= 4*api.Ops; o++ {
		w := weave.New([]int{9, 9, 9, 9}, 1)
		if o < 0 || o >= api.Ops || o == api.Lit || o == api.Branch || o == api.Zero || o == api.Loop || o == api.PlusLoop {
			expectIs(t, "Op, wrong", w.Op(o), api.NoWord)
			expectLook(t, "behind it", w, look{[]int{9, 9, 9, 9}, 1, 0})
			continue
		}
		expectIs(t, "Op", w.Op(o), 0)
		expectLook(t, "behind it", w, look{[]int{9, o, 9, 9}, 2, 0})
	}
	for _, o := range []int{math.MinInt, math.MaxInt, api.First, -1 << 32, 1 << 32} {
		expectIs(t, "Op, far", weave.New([]int{1}, 0).Op(o), api.NoWord)
	}
}

// P1001: Arg lays an operation and its operand, whatever that is; NoWord, if it has none.
func TestArg(t *testing.T) {
	for o := -70; o <= 4*api.Ops; o++ {
		for _, v := range []int{0, 1, -5, 63, 64, 5000, math.MinInt, math.MaxInt} {
			w := weave.New([]int{9, 9, 9, 9}, 1)
			if o != api.Lit && o != api.Branch && o != api.Zero && o != api.Loop && o != api.PlusLoop {
				expectIs(t, "Arg, wrong", w.Arg(o, v), api.NoWord)
				expectLook(t, "behind it", w, look{[]int{9, 9, 9, 9}, 1, 0})
				continue
			}
			expectIs(t, "Arg", w.Arg(o, v), 0)
			expectLook(t, "behind it", w, look{[]int{9, o, v, 9}, 3, 0})
		}
	}
}

// P1001: Call lays an xt that is not below First, be there such a cell or not.
func TestCall(t *testing.T) {
	for _, xt := range []int{64, 65, 76, 192, 200, 5000, math.MaxInt} {
		w := weave.New([]int{9, 9, 9, 9}, 1)
		expectIs(t, "Call", w.Call(xt), 0)
		expectLook(t, "behind it", w, look{[]int{9, xt, 9, 9}, 2, 0})
	}
	for _, xt := range []int{63, 62, 47, 6, 1, 0, -1, -64, math.MinInt} {
		w := weave.New([]int{9, 9, 9, 9}, 1)
		expectIs(t, "Call, below", w.Call(xt), api.NoAddress)
		expectLook(t, "behind it", w, look{[]int{9, 9, 9, 9}, 1, 0})
	}
}

// P1001, P1002: where there are not so many cells left it is NoRoom, and nothing; what is named ahead of that counts first.
func TestRoom(t *testing.T) {
	at := func(left int) *weave.Weave { return weave.New(make([]int, 10), 10-left) }
	for _, x := range []struct {
		what string
		need int
		do   func(w *weave.Weave) int
	}{
		{"Op", 1, func(w *weave.Weave) int { return w.Op(api.Dup) }},
		{"Arg", 2, func(w *weave.Weave) int { return w.Arg(api.Lit, 1) }},
		{"Call", 1, func(w *weave.Weave) int { return w.Call(64) }},
		{"IF", 2, func(w *weave.Weave) int { return w.Form("IF") }},
		{"BEGIN", 0, func(w *weave.Weave) int { return w.Form("BEGIN") }},
		{"DO", 1, func(w *weave.Weave) int { return w.Form("DO") }},
	} {
		for left := range 4 {
			w := at(left)
			before := lookAt(w)
			if left >= x.need {
				expectIs(t, x.what, x.do(w), 0)
				expectIs(t, x.what, w.Here(), 10-left+x.need)
				continue
			}
			expectIs(t, x.what, x.do(w), api.NoRoom)
			expectLook(t, x.what, w, before)
		}
	}
	full := at(0)
	expectIs(t, "Op", full.Op(api.Lit), api.NoWord)
	expectIs(t, "Op", full.Op(-1), api.NoWord)
	expectIs(t, "Arg", full.Arg(api.Dup, 1), api.NoWord)
	expectIs(t, "Call", full.Call(63), api.NoAddress)
	expectIs(t, "Form", full.Form("DUP"), api.NoWord)
	for _, form := range forms {
		if form != "IF" && form != "BEGIN" && form != "DO" {
			expectIs(t, form, full.Form(form), api.Unlike)
		}
	}
	expectLook(t, "all of these", full, look{make([]int, 10), 10, 0})
}

// P1002: of what closes something NoRoom leaves all open, and leads nowhere; it may still be closed otherwise.
func TestRoomOfEnds(t *testing.T) {
	for _, x := range []struct {
		begin []any
		end   string
		need  int
	}{
		{[]any{"IF"}, "ELSE", 2}, {[]any{"IF"}, "THEN", 0}, {[]any{"IF", "ELSE"}, "THEN", 0},
		{[]any{"BEGIN"}, "UNTIL", 2}, {[]any{"BEGIN"}, "AGAIN", 2}, {[]any{"BEGIN"}, "WHILE", 2},
		{[]any{"BEGIN", "WHILE"}, "REPEAT", 2}, {[]any{"DO"}, "LOOP", 2}, {[]any{"DO"}, "+LOOP", 2},
	} {
		for left := range 4 {
			mem := make([]int, 200)
			probe := weave.New(mem, 0)
			expectIs(t, "begin", lay(probe, x.begin...), 0)
			w := weave.New(mem, len(mem)-probe.Here()-left)
			expectIs(t, "begin", lay(w, x.begin...), 0)
			before := lookAt(w)
			if left >= x.need {
				expectIs(t, x.end, w.Form(x.end), 0)
				expectIs(t, x.end, w.Here(), len(mem)-left+x.need)
				continue
			}
			expectIs(t, x.end, w.Form(x.end), api.NoRoom)
			expectLook(t, x.end, w, before)
			expectIs(t, x.end+" again", w.Form(x.end), api.NoRoom)
		}
	}
	w := weave.New(make([]int, 10), 6)
	expectIs(t, "IF DUP ELSE", lay(w, "IF", api.Dup, "ELSE"), api.NoRoom)
	expectLook(t, "IF DUP", w, look{[]int{0, 0, 0, 0, 0, 0, 4, 0, 6, 0}, 9, 1})
	expectIs(t, "THEN", w.Form("THEN"), 0)
	expectLook(t, "IF DUP THEN", w, look{[]int{0, 0, 0, 0, 0, 0, 4, 9, 6, 0}, 9, 0})
}

// P1002: each word of control lays its cells, and what leads nowhere yet has the operand 0.
func TestForms(t *testing.T) {
	const d = api.Dup
	for _, x := range []struct {
		words []any
		want  []int
		open  int
	}{
		{[]any{"IF"}, []int{4, 0}, 1},
		{[]any{"IF", d, "THEN"}, []int{4, 203, 6}, 0},
		{[]any{"IF", "THEN"}, []int{4, 202}, 0},
		{[]any{"IF", d, "ELSE"}, []int{4, 205, 6, 3, 0}, 1},
		{[]any{"IF", d, "ELSE", d, d, "THEN"}, []int{4, 205, 6, 3, 207, 6, 6}, 0},
		{[]any{"IF", "ELSE", "THEN"}, []int{4, 204, 3, 204}, 0},
		{[]any{"IF", "IF"}, []int{4, 0, 4, 0}, 2},
		{[]any{"IF", "IF", "THEN", d}, []int{4, 0, 4, 204, 6}, 1},
		{[]any{"IF", "IF", d, "ELSE", "THEN", "ELSE", d, "THEN"}, []int{4, 209, 4, 207, 6, 3, 207, 3, 210, 6}, 0},
		{[]any{"BEGIN"}, nil, 1},
		{[]any{"BEGIN", "BEGIN", "BEGIN"}, nil, 3},
		{[]any{d, "BEGIN", d, "UNTIL"}, []int{6, 6, 4, 201}, 0},
		{[]any{d, "BEGIN", d, "AGAIN"}, []int{6, 6, 3, 201}, 0},
		{[]any{"BEGIN", "UNTIL"}, []int{4, 200}, 0},
		{[]any{"BEGIN", "AGAIN"}, []int{3, 200}, 0},
		{[]any{"BEGIN", d, "WHILE"}, []int{6, 4, 0}, 2},
		{[]any{d, "BEGIN", d, "WHILE", d, d, "REPEAT"}, []int{6, 6, 4, 208, 6, 6, 3, 201}, 0},
		{[]any{"BEGIN", "WHILE", "REPEAT"}, []int{4, 204, 3, 200}, 0},
		{[]any{"BEGIN", d, "BEGIN", d, "UNTIL", "AGAIN"}, []int{6, 6, 4, 201, 3, 200}, 0},
		{[]any{"DO"}, []int{36}, 1},
		{[]any{d, "DO", d, "LOOP"}, []int{6, 36, 6, 37, 202}, 0},
		{[]any{d, "DO", d, "+LOOP"}, []int{6, 36, 6, 38, 202}, 0},
		{[]any{"DO", "LOOP"}, []int{36, 37, 201}, 0},
		{[]any{"DO", "DO", d, "LOOP", "+LOOP"}, []int{36, 36, 6, 37, 202, 38, 201}, 0},
		{[]any{"DO", "IF", "BEGIN", "WHILE", "DO", "LOOP", "REPEAT", "ELSE", "THEN", "+LOOP"},
			[]int{36, 4, 212, 4, 210, 36, 37, 206, 3, 203, 3, 212, 38, 201}, 0},
		{[]any{"BEGIN", "WHILE", "IF", "THEN", "REPEAT"}, []int{4, 206, 4, 204, 3, 200}, 0},
		{[]any{"BEGIN", "BEGIN", "WHILE", "REPEAT", "WHILE", "REPEAT"}, []int{4, 204, 3, 200, 4, 208, 3, 200}, 0},
	} {
		mem := make([]int, 300)
		for a := range mem {
			mem[a] = 77 // what lies there already is no operand of what leads nowhere yet
		}
		w := weave.New(mem, 200)
		expectIs(t, "fault", lay(w, x.words...), 0)
		expectLook(t, "lay", w, look{append(append(slices.Clone(mem[:200]), x.want...), mem[200+len(x.want):]...), 200 + len(x.want), x.open})
	}
}

// P1002: what is not open as it should be is Unlike, and nothing.
func TestUnlike(t *testing.T) {
	for _, x := range []struct {
		begin []any
		fit   string
	}{
		{nil, "IF BEGIN DO"},
		{[]any{"IF"}, "IF BEGIN DO ELSE THEN"},
		{[]any{"IF", "ELSE"}, "IF BEGIN DO THEN"},
		{[]any{"BEGIN"}, "IF BEGIN DO UNTIL AGAIN WHILE"},
		{[]any{"BEGIN", "WHILE"}, "IF BEGIN DO REPEAT"},
		{[]any{"DO"}, "IF BEGIN DO LOOP +LOOP"},
		{[]any{"IF", "BEGIN"}, "IF BEGIN DO UNTIL AGAIN WHILE"},
		{[]any{"BEGIN", "IF"}, "IF BEGIN DO ELSE THEN"},
		{[]any{"BEGIN", "WHILE", "IF"}, "IF BEGIN DO ELSE THEN"},
		{[]any{"BEGIN", "WHILE", "DO"}, "IF BEGIN DO LOOP +LOOP"},
		{[]any{"BEGIN", "WHILE", "BEGIN"}, "IF BEGIN DO UNTIL AGAIN WHILE"},
		{[]any{"BEGIN", "DO"}, "IF BEGIN DO LOOP +LOOP"},
		{[]any{"DO", "BEGIN"}, "IF BEGIN DO UNTIL AGAIN WHILE"},
		{[]any{"DO", "IF", "ELSE"}, "IF BEGIN DO THEN"},
		{[]any{"IF", "THEN"}, "IF BEGIN DO"},
		{[]any{"BEGIN", "UNTIL"}, "IF BEGIN DO"},
		{[]any{"BEGIN", "WHILE", "REPEAT"}, "IF BEGIN DO"},
		{[]any{"DO", "LOOP"}, "IF BEGIN DO"},
	} {
		for _, form := range forms {
			w := weave.New(make([]int, 300), 200)
			expectIs(t, "begin", lay(w, x.begin...), 0)
			before := lookAt(w)
			if slices.Contains(strings.Fields(x.fit), form) {
				expectIs(t, form, w.Form(form), 0)
				continue
			}
			expectIs(t, form, w.Form(form), api.Unlike)
			expectLook(t, form, w, before)
		}
	}
}

// P1002: letters may be great or small; these are a to z alone. Other words are NoWord, whatever is open.
func TestWords(t *testing.T) {
	for _, x := range []struct{ begin, words string }{
		{"", "IF if If iF"}, {"", "BEGIN begin bEgIn"}, {"", "DO do dO Do"},
		{"if", "ELSE else eLSe THEN then tHen"}, {"begin", "UNTIL until Until AGAIN again agaIN WHILE while whilE"},
		{"begin while", "REPEAT repeat repeaT"}, {"do", "LOOP loop LooP +LOOP +loop +lOOp"},
	} {
		for _, word := range strings.Fields(x.words) {
			w := weave.New(make([]int, 300), 200)
			for _, b := range strings.Fields(x.begin) {
				expectIs(t, b, w.Form(b), 0)
			}
			expectIs(t, word, w.Form(word), 0)
		}
	}
	wrong := []string{
		"", " ", "IFF", "I", "F", "IF ", " IF", "IF\x00", "-LOOP", "+LOOP+", "++LOOP", "+ LOOP", "LOOP+", "+", "LOO", "DUP", "?DO", "LEAVE",
		"DO LOOP", "BEGI", "BEGINS", "W", "ENDIF", "REPEA\x74\x00", "\x69\xe6", "\xffIF", "(DO)", "(LOOP)", "0BRANCH", "BRANCH", ":", ";", "RECURSE",
		"\u0131f", "\u0130F", "el\u017fe", "EL\u017fE", "\uff29\uff26", "IF\u200b", "unt\u0131l", "4", "36", strings.Repeat("IF", 1<<16),
	}
	for c := range 256 {
		if s := string([]byte{byte(c), 'F'}); !strings.ContainsRune("Ii", rune(c)) {
			wrong = append(wrong, s)
		}
		if s := string([]byte{byte(c), 'L', 'O', 'O', 'P'}); c != '+' {
			wrong = append(wrong, s)
		}
	}
	for _, begin := range [][]any{nil, {"IF"}, {"BEGIN"}, {"BEGIN", "WHILE"}, {"DO"}} {
		w := weave.New(make([]int, 300), 200)
		expectIs(t, "begin", lay(w, begin...), 0)
		before := lookAt(w)
		for _, word := range wrong {
			expectIs(t, word, w.Form(word), api.NoWord)
		}
		expectLook(t, "behind these", w, before)
	}
}

// P1001, P1002: behind a fault the weave is as it was, and goes on.
func TestGoesOn(t *testing.T) {
	w := weave.New(make([]int, 300), 200)
	for _, x := range []struct {
		word any
		code int
	}{
		{"THEN", api.Unlike}, {"IF", 0}, {"UNTIL", api.Unlike}, {api.Lit, api.NoWord}, {api.Dup, 0}, {"NO", api.NoWord},
		{"else", 0}, {"else", api.Unlike}, {"DO", 0}, {"THEN", api.Unlike}, {"loop", 0}, {"LOOP", api.Unlike}, {"then", 0}, {"then", api.Unlike},
	} {
		expectIs(t, "lay", lay(w, x.word), x.code)
	}
	expectIs(t, "Open", w.Open(), 0)
	if got, want := w.Mem()[200:w.Here()], []int{4, 205, 6, 3, 208, 36, 37, 206}; !slices.Equal(got, want) {
		t.Fatalf("laid: %v, not %v", got, want)
	}
}

// P1002: Mem is a copy each time.
func TestMemIsACopy(t *testing.T) {
	w := weave.New([]int{1, 2, 3, 4}, 1)
	first := w.Mem()
	first[0], first[2] = 50, 60
	expectLook(t, "behind a write", w, look{[]int{1, 2, 3, 4}, 1, 0})
	kept := w.Mem()
	expectIs(t, "IF", w.Form("IF"), 0)
	expectIs(t, "THEN", w.Form("THEN"), 0)
	if !slices.Equal(kept, []int{1, 2, 3, 4}) {
		t.Fatalf("an answer was changed later: %v", kept)
	}
	_ = append(w.Mem()[:1], 70)
	expectLook(t, "behind all", w, look{[]int{1, 4, 3, 4}, 3, 0})
}

// P1002: a nil one, and a zero one, lay nothing: NoWord, 0, nil.
func TestNone(t *testing.T) {
	for _, w := range []*weave.Weave{nil, {}} {
		for _, o := range []int{api.Dup, api.Lit, -1, 48} {
			expectIs(t, "Op", w.Op(o), api.NoWord)
			expectIs(t, "Arg", w.Arg(o, 1), api.NoWord)
		}
		for _, xt := range []int{0, 63, 64, 200} {
			expectIs(t, "Call", w.Call(xt), api.NoWord)
		}
		for _, form := range append([]string{"", "DUP", "if"}, forms...) {
			expectIs(t, form, w.Form(form), api.NoWord)
		}
		expectLook(t, "a nil one", w, look{nil, 0, 0})
		if w.Mem() != nil {
			t.Fatalf("Mem: %v, not nil", w.Mem())
		}
	}
}

// P1002: parts may lie in one another, as deep as any.
func TestDeep(t *testing.T) {
	const deep = 1 << 14
	w := weave.New(make([]int, 8*deep), 0)
	for range deep {
		expectIs(t, "begin", lay(w, "BEGIN", "WHILE", "IF", "DO"), 0)
	}
	expectIs(t, "Open", w.Open(), 4*deep)
	expectIs(t, "Here", w.Here(), 5*deep)
	for range 3 * deep / 4 { // four cells for the ends of four parts: so far there is room
		expectIs(t, "ends", lay(w, "LOOP", "THEN", "REPEAT"), 0)
	}
	expectIs(t, "LOOP", w.Form("LOOP"), api.NoRoom)
	expectIs(t, "Here", w.Here(), 8*deep)
	expectIs(t, "Open", w.Open(), deep)
}

// model is a weave by names of places: where a place is, is asked when all was laid.
type model struct {
	size, start int
	laid        []string // a number, or the name of a place
	open        []string // what is open, with the name of its place
	places      map[string]int
	named       int
}

// place makes a name of a place.
func (m *model) place() string {
	m.named++
	return "@" + strings.Repeat("i", m.named)
}

// form does a word of control.
func (m *model) form(word string) int {
	last, below := m.pick(1), m.pick(2)
	kind, at, _ := strings.Cut(last, "@")
	at = "@" + at
	_, under, _ := strings.Cut(below, "@")
	under = "@" + under
	var cells, opens []string
	closes, here := 0, ""
	fits := true
	next := m.place()
	switch word {
	case "IF":
		cells, opens = []string{"ZERO", next}, []string{"if" + next}
	case "ELSE":
		fits, closes, here = kind == "if", 1, at
		cells, opens = []string{"BRANCH", next}, []string{"else" + next}
	case "THEN":
		fits, closes, here = kind == "if" || kind == "else", 1, at
	case "BEGIN":
		opens, here = []string{"begin" + next}, next
	case "UNTIL":
		fits, closes, cells = kind == "begin", 1, []string{"ZERO", at}
	case "AGAIN":
		fits, closes, cells = kind == "begin", 1, []string{"BRANCH", at}
	case "WHILE":
		fits, cells, opens = kind == "begin", []string{"ZERO", next}, []string{"while" + next}
	case "REPEAT":
		fits, closes, cells, here = kind == "while" && strings.HasPrefix(below, "begin"), 2, []string{"BRANCH", under}, at
	case "DO":
		cells, opens, here = []string{"DO"}, []string{"do" + next}, next
	case "LOOP":
		fits, closes, cells = kind == "do", 1, []string{"LOOP", at}
	case "+LOOP":
		fits, closes, cells = kind == "do", 1, []string{"PLUS", at}
	default:
		return api.NoWord
	}
	if !fits {
		return api.Unlike
	}
	if m.start+len(m.laid)+len(cells) > m.size {
		return api.NoRoom
	}
	m.laid = append(m.laid, cells...)
	m.open = append(m.open[:len(m.open)-closes], opens...)
	if here != "" {
		m.places[here] = m.start + len(m.laid)
	}
	return 0
}

// pick tells the n-th that is open from the last one on.
func (m *model) pick(n int) string {
	if n > len(m.open) {
		return ""
	}
	return m.open[len(m.open)-n]
}

// op lays an operation.
func (m *model) op(o string) int {
	if m.start+len(m.laid) >= m.size {
		return api.NoRoom
	}
	m.laid = append(m.laid, o)
	return 0
}

// look tells what the weave should tell.
func (m *model) look() look {
	mem := make([]int, m.size)
	for i, x := range m.laid {
		switch x {
		case "ZERO":
			mem[m.start+i] = 4
		case "BRANCH":
			mem[m.start+i] = 3
		case "DO":
			mem[m.start+i] = 36
		case "LOOP":
			mem[m.start+i] = 37
		case "PLUS":
			mem[m.start+i] = 38
		case "DUP":
			mem[m.start+i] = 6
		default:
			mem[m.start+i] = m.places[x]
		}
	}
	return look{mem, m.start + len(m.laid), len(m.open)}
}

// both does a word on a weave and on its model.
func both(t *testing.T, w *weave.Weave, m *model, word string) {
	t.Helper()
	if word == "DUP" {
		expectIs(t, word, w.Op(api.Dup), m.op(word))
	} else {
		expectIs(t, word, w.Form(word), m.form(word))
	}
}

// pair makes a weave and its model.
func pair(size, start int) (*weave.Weave, *model) {
	return weave.New(make([]int, size), start), &model{size: size, start: start, places: map[string]int{}}
}

// P1002: every row of five words, where there is room, and where there is little.
func TestEveryShortRow(t *testing.T) {
	words := append([]string{"DUP"}, forms...)
	for _, size := range []int{16, 9} {
		for n := range 12 * 12 * 12 * 12 * 12 {
			w, m := pair(size, 5)
			for rest, i := n, 0; i < 5; rest, i = rest/12, i+1 {
				both(t, w, m, words[rest%12])
			}
			expectLook(t, "a row", w, m.look())
		}
	}
}

// P1001, P1002: long rows that are drawn, looked at behind each word.
func TestLongRows(t *testing.T) {
	words := append([]string{"DUP", "dup?", "IF", "BEGIN", "DO", "WHILE", "THEN", "REPEAT"}, forms...)
	x := uint64(10)
	for row := range 400 {
		w, m := pair(20+row%90, row%30)
		for range 120 {
			x = x*6364136223846793005 + 1442695040888963407
			both(t, w, m, words[int(x>>33)%len(words)])
			expectLook(t, "a row", w, m.look())
		}
	}
}

// run does a word on a machine, and tells its stack.
func run(t *testing.T, w *weave.Weave, stack ...int) []int {
	t.Helper()
	expectIs(t, "Op", w.Op(api.Exit), 0)
	expectIs(t, "Open", w.Open(), 0)
	s := inner.Boot(300, "")
	copy(s.Mem[200:], w.Mem()[200:])
	s.Stack = stack
	s, _ = inner.Run(inner.Enter(s, 200), 10000)
	expectIs(t, "Status", s.Status, api.Done)
	return s.Stack
}

// P1002: what was laid does what the words say.
func TestMeaning(t *testing.T) {
	word := func(words ...any) *weave.Weave {
		w := weave.New(make([]int, 300), 200)
		expectIs(t, "lay", lay(w, words...), 0)
		return w
	}
	expectStack := func(what string, got []int, want ...int) {
		t.Helper()
		if !slices.Equal(got, want) {
			t.Fatalf("%s: %v, not %v", what, got, want)
		}
	}
	expectStack("IF THEN, not 0", run(t, word("IF", api.Negate, "THEN"), 5, -1), -5)
	expectStack("IF THEN, 0", run(t, word("IF", api.Negate, "THEN"), 5, 0), 5)
	expectStack("IF ELSE THEN, not 0", run(t, word("IF", api.Negate, "ELSE", api.Invert, "THEN"), 5, 1), -5)
	expectStack("IF ELSE THEN, 0", run(t, word("IF", api.Negate, "ELSE", api.Invert, "THEN"), 5, 0), -6)
	expectStack("BEGIN UNTIL", run(t, word("BEGIN", api.Dup, api.Negate, api.Add, api.IsZero, "UNTIL"), 1, 2), 1)
	half := weave.New(make([]int, 300), 200) // how often may it be halved?
	for _, code := range []int{
		half.Arg(api.Lit, 0), half.Op(api.Swap),
		half.Form("BEGIN"), half.Arg(api.Lit, 2), half.Op(api.Div), half.Op(api.Dup), half.Form("WHILE"),
		half.Op(api.Swap), half.Arg(api.Lit, 1), half.Op(api.Add), half.Op(api.Swap), half.Form("REPEAT"), half.Op(api.Drop),
	} {
		expectIs(t, "half", code, 0)
	}
	expectStack("BEGIN WHILE REPEAT", run(t, half, 1000), 9)
	expectStack("DO LOOP", run(t, word("DO", api.AtBack, "LOOP"), 4, 0), 0, 1, 2, 3)
	two := weave.New(make([]int, 300), 200)
	for _, code := range []int{two.Form("DO"), two.Op(api.AtBack), two.Arg(api.Lit, 2), two.Form("+LOOP")} {
		expectIs(t, "two", code, 0)
	}
	expectStack("DO +LOOP", run(t, two, 7, 1), 1, 3, 5)
	square := weave.New(make([]int, 300), 200)
	expectIs(t, "Call", square.Call(api.First+2*api.Dup), 0)
	expectIs(t, "Op", square.Op(api.Mul), 0)
	expectStack("Call", run(t, square, 7), 49)
}

// P1001: what is op.Right, and has no operand, is what Op lays.
func TestOpIsOp(t *testing.T) {
	for o := -5; o < api.First; o++ {
		w := weave.New(make([]int, 3), 0)
		expectIs(t, "Op", w.Op(o) == 0, op.Right(o) && !op.Arg(o))
		expectIs(t, "Arg", weave.New(make([]int, 3), 0).Arg(o, 1) == 0, op.Arg(o))
	}
}
