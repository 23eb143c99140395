package ir_test

import (
	"math"
	"slices"
	"strconv"
	"testing"

	"holloway/api"
	"holloway/ir"
)

const (
	least    = math.MinInt
	greatest = math.MaxInt
)

// nums makes a list.
func nums(l ...int) []int { return l }

// kind is what is asked of an instruction: which of its numbers are places, and which are exits, in this order.
type kind struct {
	op           int
	name         string
	gives        bool
	places, outs string
}

// kinds are the twelve; what Calc names hangs on its operation: see calc.
func kinds() []kind {
	return []kind{
		{op: 1, name: "const", gives: true},
		{op: 2, name: "slot", gives: true},
		{op: 3, name: "behind", gives: true},
		{op: 4, name: "calc", gives: true},
		{op: 5, name: "load", gives: true, places: "B", outs: "X"},
		{op: 6, name: "put", places: "BC", outs: "XA"},
		{op: 7, name: "must", places: "B", outs: "X"},
		{op: 8, name: "mustnot", places: "B", outs: "X"},
		{op: 9, name: "same", places: "BC", outs: "X"},
		{op: 10, name: "say", places: "B", outs: "X"},
		{op: 11, name: "tell", places: "B", outs: "X"},
		{op: 12, name: "ask", gives: true},
	}
}

// twos and ones are the operations of two cells, and of one; divisions those of two that may not be done.
var (
	twos = []int{
		api.Add, api.Sub, api.Mul, api.Div, api.Mod, api.And, api.Or, api.Xor, api.Left, api.Right,
		api.Equal, api.Less, api.ULess, api.Min, api.Max,
	}
	ones      = []int{api.Negate, api.Invert, api.IsZero, api.IsNeg}
	divisions = []int{api.Div, api.Mod}
)

// calc is Calc of an operation.
func calc(op int) kind {
	k := kind{op: api.Calc, name: "calc", gives: true, places: "B"}
	if slices.Contains(twos, op) {
		k.places = "BC"
	}
	if slices.Contains(divisions, op) {
		k.outs = "X"
	}
	return k
}

// of tells the kind of an instruction; an empty one, if there is none.
func of(i api.Ins) kind {
	if i.Op == api.Calc {
		return calc(i.A)
	}
	for _, k := range kinds() {
		if k.op == i.Op {
			return k
		}
	}
	return kind{}
}

// pick tells those of an instruction's numbers that are named by letters.
func pick(i api.Ins, letters string) []int {
	var l []int
	for _, c := range letters {
		l = append(l, map[rune]int{'A': i.A, 'B': i.B, 'C': i.C, 'X': i.X}[c])
	}
	return l
}

// wrong are numbers of no instruction: those nearest to some, and those that would be some in fewer bits.
func wrong() []int {
	l := []int{least, least + 1, -1 << 32, -2, -1, 0, 13, 14, api.Ops, 1 << 31, 1 << 62, greatest - 1, greatest}
	for o := 1; o <= 12; o++ {
		l = append(l, -o, ^o-12, 12+o, 1<<8+o, 1<<16+o, 1<<32+o, least+o)
	}
	return l
}

func expect[T comparable](t *testing.T, what string, got, want T) {
	t.Helper()
	if got != want {
		t.Errorf("%s: %v, not %v", what, got, want)
	}
}

// expectNames holds what an instruction names against what is wanted.
func expectNames(t *testing.T, i api.Ins, places, outs []int) {
	t.Helper()
	if got := ir.Uses(i); !slices.Equal(got, places) {
		t.Errorf("Uses(%v) = %v, not %v", i, got, places)
	}
	if got := ir.Outs(i); !slices.Equal(got, outs) {
		t.Errorf("Outs(%v) = %v, not %v", i, got, outs)
	}
}

// expectKind holds all that is told of an instruction against its kind.
func expectKind(t *testing.T, i api.Ins, k kind) {
	t.Helper()
	expect(t, "Gives", ir.Gives(i.Op), k.gives)
	expectNames(t, i, pick(i, k.places), pick(i, k.outs))
	text := ""
	if k.name != "" {
		text = k.name + " " + strconv.Itoa(i.A) + " " + strconv.Itoa(i.B) + " " + strconv.Itoa(i.C) + " " + strconv.Itoa(i.X)
	}
	expect(t, "Text", ir.Text(i), text)
}

// P1403: the chapter's example.
func TestExample(t *testing.T) {
	expect(t, "Text", ir.Text(api.Ins{Op: api.Const, A: 5}), "const 5 0 0 0")
}

// P1401: which have a value, by hand.
func TestGives(t *testing.T) {
	var gives []int
	for op := -100; op < 100; op++ {
		if ir.Gives(op) {
			gives = append(gives, op)
		}
	}
	if want := nums(api.Const, api.Slot, api.Behind, api.Calc, api.Load, api.Ask); !slices.Equal(gives, want) {
		t.Errorf("Gives: %v, not %v", gives, want)
	}
}

// P1401: what each names, by hand.
func TestNames(t *testing.T) {
	named := func(op, a int) api.Ins { return api.Ins{Op: op, A: a, B: 2, C: 3, X: 4} }
	for _, op := range nums(api.Const, api.Slot, api.Behind, api.Ask) {
		expectNames(t, named(op, 1), nil, nil)
	}
	for _, op := range nums(api.Load, api.Must, api.MustNot, api.Say, api.Tell) {
		expectNames(t, named(op, 1), nums(2), nums(4))
	}
	expectNames(t, named(api.Put, 1), nums(2, 3), nums(4, 1))
	expectNames(t, named(api.Same, 1), nums(2, 3), nums(4))
	expectNames(t, named(api.Calc, api.Sub), nums(2, 3), nil)
	expectNames(t, named(api.Calc, api.Left), nums(2, 3), nil)
	expectNames(t, named(api.Calc, api.Div), nums(2, 3), nums(4))
	expectNames(t, named(api.Calc, api.Mod), nums(2, 3), nums(4))
	expectNames(t, named(api.Calc, api.IsNeg), nums(2), nil)
}

// P1401, P1403: each of the twelve, whatever its numbers are.
func TestKinds(t *testing.T) {
	for _, n := range nums(least, -300, -1, 0, 1, 7, 1000, 1<<40, greatest) {
		for _, k := range kinds() {
			i := api.Ins{Op: k.op, A: n, B: n ^ 1, C: n ^ 2, X: n ^ 3}
			expectKind(t, i, of(i))
		}
	}
}

// P1401: Calc of each operation, and of numbers of none: these are not of two.
func TestCalc(t *testing.T) {
	numbers := wrong()
	for op := range 2 * api.Ops {
		numbers = append(numbers, op, -op, 1<<32+op, least+op)
	}
	for _, op := range numbers {
		expectKind(t, api.Ins{Op: api.Calc, A: op, B: 5, C: 6, X: 7}, calc(op))
		expectKind(t, api.Ins{Op: api.Calc, A: op, B: -1, C: 0, X: greatest}, calc(op))
	}
}

// P1401, P1403: of others there is nothing.
func TestNone(t *testing.T) {
	for _, op := range wrong() {
		for _, a := range nums(0, api.Add, api.Div, api.Negate, 5) {
			expectKind(t, api.Ins{Op: op, A: a, B: 2, C: 3, X: 4}, kind{})
		}
	}
}

// P1401: what is named twice is told twice.
func TestNamedTwice(t *testing.T) {
	expectNames(t, api.Ins{Op: api.Put, A: 4, B: 3, C: 3, X: 4}, nums(3, 3), nums(4, 4))
	expectNames(t, api.Ins{Op: api.Same, B: 3, C: 3, X: 3}, nums(3, 3), nums(3))
	expectNames(t, api.Ins{Op: api.Calc, A: api.Mul, B: 3, C: 3, X: 3}, nums(3, 3), nil)
}

// P1401: lists are new each time.
func TestListsAreNew(t *testing.T) {
	for _, k := range append(kinds(), kind{op: 0}) {
		for _, op := range nums(api.Add, api.Mod, api.Invert) {
			i := api.Ins{Op: k.op, A: op, B: 21, C: 22, X: 23}
			places, outs := ir.Uses(i), ir.Outs(i)
			clear(places[:cap(places)])
			clear(outs[:cap(outs)])
			expectKind(t, i, of(i))
		}
	}
}

// P1403: texts by hand: signs, the least and the greatest number, and names of all twelve.
func TestText(t *testing.T) {
	expect(t, "signs", ir.Text(api.Ins{Op: api.Put, A: -1, B: 20, C: -300, X: 4}), "put -1 20 -300 4")
	expect(t, "bounds", ir.Text(api.Ins{Op: api.Calc, A: least, B: greatest, C: -1, X: 0}), "calc -9223372036854775808 9223372036854775807 -1 0")
	for op, want := range []string{"", "const", "slot", "behind", "calc", "load", "put", "must", "mustnot", "same", "say", "tell", "ask", ""} {
		if want != "" {
			want += " 1 2 3 4"
		}
		expect(t, "name", ir.Text(api.Ins{Op: op, A: 1, B: 2, C: 3, X: 4}), want)
	}
}
