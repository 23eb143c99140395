package fault_test

import (
	"errors"
	"fmt"
	"math"
	"slices"
	"strconv"
	"strings"
	"testing"

	"holloway/api"
	"holloway/fault"
)

// texts are the codes that have a text of their own, written out once more by hand.
var texts = map[int]string{
	-3: "stack overflow", -4: "stack underflow", -5: "return stack overflow", -6: "return stack underflow",
	-8: "dictionary overflow", -9: "invalid address", -10: "division by zero", -13: "undefined word",
	-14: "compile-only word", -16: "no name", -22: "control mismatch", -25: "broken catch", -57: "output full",
}

var codes = []int{
	math.MinInt, math.MinInt + 1, -1 << 32, -100, -58, -57, -56, -26, -25, -22, -16, -14, -13, -10, -9, -8, -7, -6,
	-5, -4, -3, -2, -1, 1, 2, 3, 4, 57, 1 << 32, math.MaxInt - 1, math.MaxInt,
}

var places = []int{math.MinInt, -64, -1, 0, 1, 7, 192, api.MaxMem, 1 << 40, math.MaxInt}

// plain is an error that has no fault in it.
var plain = errors.New("plain")

// liar says of itself that it is whatever is asked for, and hands nothing out.
type liar struct{}

func (liar) Error() string { return "liar" }
func (liar) As(any) bool   { return true }

// broken panics wherever it is asked.
type broken struct{}

func (broken) Error() string { panic("error") }
func (broken) Unwrap() error { panic("unwrap") }

// hollow is fit for pointers that point somewhere.
type hollow struct{ text string }

func (h *hollow) Error() string { return h.text }
func (h *hollow) Unwrap() error { return errors.New(h.text) }

// many can't be compared.
type many []error

func (many) Error() string     { return "many" }
func (m many) Unwrap() []error { return m }

// expect holds all that is told of an error against what is wanted.
func expect(t *testing.T, what string, err error, code, ip int, words ...string) {
	t.Helper()
	expectFault(t, what, err, code, ip)
	if got := fault.Words(err); !slices.Equal(got, words) {
		t.Errorf("%s: Words %q, not %q", what, got, words)
	}
}

// expectFault holds against what is wanted what is told of the fault alone.
func expectFault(t *testing.T, what string, err error, code, ip int) {
	t.Helper()
	if got := fault.Code(err); got != code {
		t.Errorf("%s: Code %d, not %d", what, got, code)
	}
	if got := fault.Where(err); got != ip {
		t.Errorf("%s: Where %d, not %d", what, got, ip)
	}
	for _, asked := range append([]int{0, code, code + 1, code - 1, -code}, codes...) {
		if got, want := fault.Is(err, asked), asked == code && code != 0; got != want {
			t.Errorf("%s: Is %d: %v", what, asked, got)
		}
	}
}

func expectText(t *testing.T, what string, err error, want string) {
	t.Helper()
	if got := err.Error(); got != want {
		t.Errorf("%s: %q, not %q", what, got, want)
	}
}

// P201: New has both, and was seen from no word.
func TestNew(t *testing.T) {
	for _, code := range codes {
		for _, ip := range places {
			err := fault.New(code, ip)
			if err == nil {
				t.Fatalf("New(%d, %d): nil", code, ip)
			}
			expect(t, fmt.Sprintf("New(%d, %d)", code, ip), err, code, ip)
		}
	}
}

// P201: the code 0 is no fault: nil itself, not an interface around one.
func TestNewOfNone(t *testing.T) {
	for _, ip := range places {
		if err := fault.New(0, ip); err != nil {
			t.Errorf("New(0, %d): %v", ip, err)
		}
		if err := fault.Wrap(fault.New(0, ip), "w"); err != nil {
			t.Errorf("Wrap(New(0, %d)): %v", ip, err)
		}
	}
}

// P201: the example.
func TestExample(t *testing.T) {
	expect(t, "example", fault.Wrap(fault.New(-4, 7), "sq"), -4, 7, "sq")
}

// P201: what is wrapped has the code and the ip, and errors.Unwrap tells it.
func TestWrap(t *testing.T) {
	for _, code := range codes {
		for _, ip := range places {
			err := fault.New(code, ip)
			once := fault.Wrap(err, "in")
			twice := fault.Wrap(once, "out")
			expect(t, "once", once, code, ip, "in")
			expect(t, "twice", twice, code, ip, "out", "in")
			if errors.Unwrap(once) != err || errors.Unwrap(twice) != once {
				t.Errorf("%d at %d: not unwrapped", code, ip)
			}
			if !errors.Is(twice, once) || !errors.Is(twice, err) || errors.Is(once, twice) {
				t.Errorf("%d at %d: not found by errors.Is", code, ip)
			}
			expect(t, "the inner one", err, code, ip)
		}
	}
}

// P201: nil is seen as nil from anywhere.
func TestWrapOfNil(t *testing.T) {
	for _, word := range []string{"", "w", "two words"} {
		if err := fault.Wrap(nil, word); err != nil {
			t.Errorf("Wrap(nil, %q): %v", word, err)
		}
	}
}

// P201: one error can be seen from many words, none of which knows of the other.
func TestWrapTwice(t *testing.T) {
	err := fault.Wrap(fault.New(-9, 70), "x")
	a, b := fault.Wrap(err, "a"), fault.Wrap(err, "b")
	expect(t, "a", a, -9, 70, "a", "x")
	expect(t, "b", b, -9, 70, "b", "x")
	expect(t, "x", err, -9, 70, "x")
	expectText(t, "a", a, "a: x: invalid address at 70")
	expectText(t, "b", b, "b: x: invalid address at 70")
}

// P201: 0, false and no words of nil, and of an error that has none.
func TestNone(t *testing.T) {
	expect(t, "nil", nil, 0, 0)
	expect(t, "plain", plain, 0, 0)
	expect(t, "wrapped plain", fmt.Errorf("more: %w", plain), 0, 0)
	expect(t, "joined plain", errors.Join(plain, errors.New("other")), 0, 0)
	expect(t, "a text like a fault's", errors.New("stack underflow at 7"), 0, 0)
}

// P201: an error that has no fault can be seen from words too.
func TestWordsOfPlain(t *testing.T) {
	err := fault.Wrap(fault.Wrap(plain, "in"), "out")
	expect(t, "plain", err, 0, 0, "out", "in")
	expectText(t, "plain", err, "out: in: plain")
	if !errors.Is(err, plain) {
		t.Error("plain is not found in it")
	}
}

// P201: however deep: through errors from elsewhere, above, below and between.
func TestThroughOthers(t *testing.T) {
	err := fault.New(-10, 300)
	expect(t, "above", fmt.Errorf("more: %w", err), -10, 300)
	expect(t, "between", fault.Wrap(fmt.Errorf("more: %w", fault.Wrap(err, "in")), "out"), -10, 300, "out", "in")
	expectFault(t, "many", many{plain, fault.Wrap(err, "w")}, -10, 300)
	expectFault(t, "around many", fault.Wrap(many{fault.Wrap(err, "w")}, "out"), -10, 300)
	expectFault(t, "joined", errors.Join(plain, nil, fault.Wrap(err, "w")), -10, 300)
	over := fault.Wrap(fmt.Errorf("more: %w", fault.Wrap(err, "in")), "out")
	expectText(t, "between", over, "out: more: in: division by zero at 300")
}

// P201: of several, the first that errors.As finds counts.
func TestSeveral(t *testing.T) {
	a, b := fault.New(-4, 7), fault.New(-3, 9)
	for _, err := range []error{errors.Join(a, b), errors.Join(fmt.Errorf("more: %w", a), b), fault.Wrap(errors.Join(plain, a, b), "w")} {
		if code, ip := fault.Code(err), fault.Where(err); code != -4 || ip != 7 || !fault.Is(err, -4) || fault.Is(err, -5) {
			t.Errorf("%q: %d at %d", err, code, ip)
		}
	}
}

// P201: every word is told, alike or empty, in its place; each time as a list of its own.
func TestWords(t *testing.T) {
	words := []string{"a", "", "a", "b", "zwölf", "two words", "a:", "\x00\xff", ""}
	err := fault.New(5, 1)
	for _, word := range slices.Backward(words) {
		err = fault.Wrap(err, word)
	}
	expect(t, "words", err, 5, 1, words...)
	first := fault.Words(err)
	for i := range first {
		first[i] = "written over"
	}
	_ = append(first[:1], "behind", "behind")
	expect(t, "words anew", err, 5, 1, words...)
}

// P201, P202: as many parts nested as may be.
func TestDeep(t *testing.T) {
	const most = 1<<16 - 2
	err := fault.New(-57, 11)
	var words []string
	for i := range most {
		err = fault.Wrap(err, strconv.Itoa(i%7))
		words = append(words, strconv.Itoa(i%7))
	}
	slices.Reverse(words)
	expect(t, "deep", err, -57, 11, words...)
	if err.Error() != strings.Join(words, ": ")+": output full at 11" {
		t.Error("deep: another text")
	}
}

// P201: an error that says it is anything has no fault for that.
func TestLiar(t *testing.T) {
	expectFault(t, "liar", liar{}, 0, 0)
	expect(t, "wrapped liar", fault.Wrap(liar{}, "w"), 0, 0, "w")
	expectFault(t, "behind a fault", errors.Join(fault.New(-4, 7), liar{}), -4, 7)
}

// P201, P202: nothing panics, whatever the error from elsewhere does.
func TestBroken(t *testing.T) {
	var none *hollow
	for what, err := range map[string]error{"broken": broken{}, "hollow": none} {
		expect(t, what, err, 0, 0)
		wrapped := fault.Wrap(fault.Wrap(err, "in"), "out")
		expect(t, what, wrapped, 0, 0, "out", "in")
		if text := wrapped.Error(); !strings.HasPrefix(text, "out: in: ") {
			t.Errorf("%s: %q", what, text)
		}
	}
}

// P202: each code of api has its text.
func TestText(t *testing.T) {
	named := []int{
		api.Over, api.Under, api.BackOver, api.BackUnder, api.NoRoom, api.NoAddress, api.ByZero,
		api.NoWord, api.Only, api.NoName, api.Unlike, api.Broken, api.OutFull,
	}
	if len(named) != len(texts) {
		t.Fatalf("%d codes, %d texts", len(named), len(texts))
	}
	for _, code := range named {
		if got := fault.Text(code); got != texts[code] || got == "" {
			t.Errorf("Text(%d): %q, not %q", code, got, texts[code])
		}
	}
}

// P202: every other number is told as such.
func TestTextOfOthers(t *testing.T) {
	others := slices.Clone(codes)
	for code := -4200; code <= 4200; code++ {
		others = append(others, code)
	}
	for _, code := range others {
		want, is := texts[code]
		if !is {
			want = "throw " + fmt.Sprint(code)
		}
		if got := fault.Text(code); got != want {
			t.Errorf("Text(%d): %q, not %q", code, got, want)
		}
	}
}

// P202: the Error of New is the text, and the ip in digits.
func TestErrorOfNew(t *testing.T) {
	for _, code := range codes {
		for _, ip := range places {
			expectText(t, "New", fault.New(code, ip), fmt.Sprintf("%s at %d", fault.Text(code), ip))
		}
	}
	expectText(t, "of api", fault.New(-4, 7), "stack underflow at 7")
	expectText(t, "below 0", fault.New(5, -3), "throw 5 at -3")
	expectText(t, "the least", fault.New(math.MinInt, math.MinInt), "throw -9223372036854775808 at -9223372036854775808")
}

// P202: the Error of Wrap is the word, a colon, a blank, and that of the inner one.
func TestErrorOfWrap(t *testing.T) {
	inner := fault.New(-4, 7)
	for _, word := range []string{"sq", "", ":", "a: b", " ", "zwölf", "\xff\n"} {
		err := fault.Wrap(inner, word)
		expectText(t, "once", err, word+": stack underflow at 7")
		expectText(t, "twice", fault.Wrap(err, "main"), "main: "+word+": stack underflow at 7")
	}
	expectText(t, "plain", fault.Wrap(plain, "w"), "w: plain")
	expectText(t, "empty", fault.Wrap(errors.New(""), "w"), "w: ")
	expectText(t, "joined", fault.Wrap(errors.Join(plain, inner), "w"), "w: plain\nstack underflow at 7")
}
