package op_test

import (
	"math"
	"slices"
	"strings"
	"testing"

	"holloway/api"
	"holloway/op"
)

const (
	great = "ABCDEFGHIJKLMNOPQRSTUVWXYZ"
	small = "abcdefghijklmnopqrstuvwxyz"
)

// row is what is asked of an operation: numbers of the stack, then of the return stack.
type row struct {
	op           int
	name         string
	takes, gives [2]int
	arg, special bool // special: not Plain
}

// rows is the chapter's table, operation by operation.
func rows() []row {
	return []row{
		{op: api.Halt, name: "HALT", special: true},
		{op: api.EndCatch, name: "ENDCATCH", special: true},
		{op: api.Lit, name: "LIT", gives: [2]int{1, 0}, arg: true},
		{op: api.Branch, name: "BRANCH", arg: true},
		{op: api.Zero, name: "0BRANCH", takes: [2]int{1, 0}, arg: true},
		{op: api.Exit, name: "EXIT", takes: [2]int{0, 1}},
		{op: api.Dup, name: "DUP", takes: [2]int{1, 0}, gives: [2]int{2, 0}},
		{op: api.Drop, name: "DROP", takes: [2]int{1, 0}},
		{op: api.Swap, name: "SWAP", takes: [2]int{2, 0}, gives: [2]int{2, 0}},
		{op: api.Copy, name: "OVER", takes: [2]int{2, 0}, gives: [2]int{3, 0}},
		{op: api.Rot, name: "ROT", takes: [2]int{3, 0}, gives: [2]int{3, 0}},
		{op: api.Add, name: "+", takes: [2]int{2, 0}, gives: [2]int{1, 0}},
		{op: api.Sub, name: "-", takes: [2]int{2, 0}, gives: [2]int{1, 0}},
		{op: api.Mul, name: "*", takes: [2]int{2, 0}, gives: [2]int{1, 0}},
		{op: api.Div, name: "/", takes: [2]int{2, 0}, gives: [2]int{1, 0}},
		{op: api.Mod, name: "MOD", takes: [2]int{2, 0}, gives: [2]int{1, 0}},
		{op: api.Negate, name: "NEGATE", takes: [2]int{1, 0}, gives: [2]int{1, 0}},
		{op: api.And, name: "AND", takes: [2]int{2, 0}, gives: [2]int{1, 0}},
		{op: api.Or, name: "OR", takes: [2]int{2, 0}, gives: [2]int{1, 0}},
		{op: api.Xor, name: "XOR", takes: [2]int{2, 0}, gives: [2]int{1, 0}},
		{op: api.Invert, name: "INVERT", takes: [2]int{1, 0}, gives: [2]int{1, 0}},
		{op: api.Left, name: "LSHIFT", takes: [2]int{2, 0}, gives: [2]int{1, 0}},
		{op: api.Right, name: "RSHIFT", takes: [2]int{2, 0}, gives: [2]int{1, 0}},
		{op: api.Equal, name: "=", takes: [2]int{2, 0}, gives: [2]int{1, 0}},
		{op: api.Less, name: "<", takes: [2]int{2, 0}, gives: [2]int{1, 0}},
		{op: api.ULess, name: "U<", takes: [2]int{2, 0}, gives: [2]int{1, 0}},
		{op: api.IsZero, name: "0=", takes: [2]int{1, 0}, gives: [2]int{1, 0}},
		{op: api.IsNeg, name: "0<", takes: [2]int{1, 0}, gives: [2]int{1, 0}},
		{op: api.Min, name: "MIN", takes: [2]int{2, 0}, gives: [2]int{1, 0}},
		{op: api.Max, name: "MAX", takes: [2]int{2, 0}, gives: [2]int{1, 0}},
		{op: api.Fetch, name: "@", takes: [2]int{1, 0}, gives: [2]int{1, 0}},
		{op: api.Store, name: "!", takes: [2]int{2, 0}},
		{op: api.AddTo, name: "+!", takes: [2]int{2, 0}},
		{op: api.ToBack, name: ">R", takes: [2]int{1, 0}, gives: [2]int{0, 1}},
		{op: api.FromBack, name: "R>", takes: [2]int{0, 1}, gives: [2]int{1, 0}},
		{op: api.AtBack, name: "R@", takes: [2]int{0, 1}, gives: [2]int{1, 1}},
		{op: api.Do, name: "(DO)", takes: [2]int{2, 0}, gives: [2]int{0, 2}},
		{op: api.Loop, name: "(LOOP)", takes: [2]int{0, 2}, gives: [2]int{0, 2}, arg: true},
		{op: api.PlusLoop, name: "(+LOOP)", takes: [2]int{1, 2}, gives: [2]int{0, 2}, arg: true},
		{op: api.J, name: "J", takes: [2]int{0, 3}, gives: [2]int{1, 3}},
		{op: api.Unloop, name: "UNLOOP", takes: [2]int{0, 2}},
		{op: api.Emit, name: "EMIT", takes: [2]int{1, 0}},
		{op: api.Dot, name: ".", takes: [2]int{1, 0}},
		{op: api.Key, name: "KEY", gives: [2]int{1, 0}},
		{op: api.Execute, name: "EXECUTE", takes: [2]int{1, 0}, gives: [2]int{0, 1}},
		{op: api.Throw, name: "THROW", takes: [2]int{1, 0}, special: true},
		{op: api.Catch, name: "CATCH", takes: [2]int{1, 0}, gives: [2]int{0, 4}, special: true},
		{op: api.Nop, name: "NOP"},
	}
}

// wrong are numbers of no operation: those nearest to some, and those that would be some in fewer bits.
func wrong() []int {
	l := []int{
		math.MinInt, math.MinInt + 1, math.MinInt + api.Dup, -1 << 32, -1<<32 + api.Dup, -256 + api.Dup, -2, -1,
		api.Ops, api.Ops + 1, api.First, api.First + 2*api.Dup, api.Start, 1 << 31, 1 << 62, math.MaxInt - 1, math.MaxInt,
	}
	for o := range api.Ops {
		l = append(l, -o-1, ^o, api.Ops+o, 1<<8+o, 1<<16+o, 1<<32+o, math.MinInt+o)
	}
	return l
}

// byName are the operations by their names, letters great.
func byName() map[string]int {
	of := map[string]int{}
	for _, r := range rows() {
		of[r.name] = r.op
	}
	return of
}

// asGreat makes the letters a to z of a text great; every other byte is left as it is.
func asGreat(s string) string {
	b := []byte(s)
	for i, c := range b {
		if at := strings.IndexByte(small, c); at >= 0 {
			b[i] = great[at]
		}
	}
	return string(b)
}

// expect holds all that is told of a number against its row.
func expect(t *testing.T, o int, right bool, want row) {
	t.Helper()
	if got := op.Right(o); got != right {
		t.Errorf("Right(%d) = %t, not %t", o, got, right)
	}
	if got := op.Name(o); got != want.name {
		t.Errorf("Name(%d) = %q, not %q", o, got, want.name)
	}
	if got := op.Arg(o); got != want.arg {
		t.Errorf("Arg(%d) = %t, not %t", o, got, want.arg)
	}
	if got := op.Plain(o); got != (right && !want.special) {
		t.Errorf("Plain(%d) = %t, not %t", o, got, !got)
	}
	if stack, back := op.Takes(o); stack != want.takes[0] || back != want.takes[1] {
		t.Errorf("Takes(%d) = %d, %d, not %v", o, stack, back, want.takes)
	}
	if stack, back := op.Gives(o); stack != want.gives[0] || back != want.gives[1] {
		t.Errorf("Gives(%d) = %d, %d, not %v", o, stack, back, want.gives)
	}
}

// expectOf holds the operation of a text against what is wanted.
func expectOf(t *testing.T, s string, want int, is bool) {
	t.Helper()
	if o, got := op.Of(s); o != want || got != is {
		t.Errorf("Of(%.40q) = %d, %t, not %d, %t", s, o, got, want, is)
	}
}

// compare holds the operation of a text against the one that has it as its name.
func compare(t *testing.T, of map[string]int, s string) {
	t.Helper()
	want, is := of[asGreat(s)]
	expectOf(t, s, want, is)
}

// P601: the chapter's examples.
func TestExample(t *testing.T) {
	expectOf(t, "dup", 6, true)
	if stack, back := op.Takes(api.Rot); stack != 3 || back != 0 {
		t.Errorf("Takes(Rot) = %d, %d, not 3, 0", stack, back)
	}
}

// P601: each operation, as the table has it; none is left out.
func TestTable(t *testing.T) {
	all := rows()
	if len(all) != api.Ops || len(byName()) != api.Ops {
		t.Fatalf("%d rows of %d names, not %d", len(all), len(byName()), api.Ops)
	}
	for i, r := range all {
		if r.op != i {
			t.Fatalf("row %d is of %d", i, r.op)
		}
		expect(t, r.op, true, r)
		expectOf(t, r.name, r.op, true)
	}
}

// P601: other numbers have no name and no operand, take and give nothing, and are in no trace.
func TestNoOperation(t *testing.T) {
	for _, o := range wrong() {
		expect(t, o, false, row{})
	}
	for o := api.Ops; o < api.MaxMem; o++ {
		expect(t, o, false, row{})
		expect(t, -o, false, row{})
	}
}

// P601: which have an operand, and which are not Plain, by hand.
func TestKinds(t *testing.T) {
	var args, special []int
	for o := -10; o < api.Ops+10; o++ {
		if op.Arg(o) {
			args = append(args, o)
		}
		if op.Right(o) && !op.Plain(o) {
			special = append(special, o)
		}
	}
	if want := []int{2, 3, 4, 37, 38}; !slices.Equal(args, want) {
		t.Errorf("with an operand: %v, not %v", args, want)
	}
	if want := []int{0, 1, 45, 46}; !slices.Equal(special, want) {
		t.Errorf("not plain: %v, not %v", special, want)
	}
}

// P601: the answers hang on the number alone, whatever was asked before.
func TestAnyOrder(t *testing.T) {
	all := rows()
	x := uint(1)
	for range 20_000 {
		x = x*6364136223846793005 + 1442695040888963407
		r := all[x>>33%api.Ops]
		expect(t, r.op, true, r)
		expectOf(t, r.name, r.op, true)
		expectOf(t, r.name+"?", 0, false)
	}
}

// P601: each letter of a name may be great or small, whatever the others are.
func TestOfGreatOrSmall(t *testing.T) {
	for _, r := range rows() {
		for mix := range 1 << len(r.name) {
			b := []byte(r.name)
			for i, c := range b {
				if at := strings.IndexByte(great, c); at >= 0 && mix>>i&1 == 1 {
					b[i] = small[at]
				}
			}
			expectOf(t, string(b), r.op, true)
		}
	}
}

// P601: a byte that lacks, is one too many, or is another one, wherever it is, makes another name, or none.
func TestOfNearNames(t *testing.T) {
	of := byName()
	for _, r := range rows() {
		for _, s := range []string{r.name, strings.ToLower(r.name)} {
			for i := range len(s) + 1 {
				compare(t, of, s[:i])
				compare(t, of, s[i:])
				for c := range 256 {
					compare(t, of, s[:i]+string([]byte{byte(c)})+s[i:])
				}
			}
			for i := range len(s) {
				compare(t, of, s[:i]+s[i+1:])
				for c := range 256 {
					compare(t, of, s[:i]+string([]byte{byte(c)})+s[i+1:])
				}
			}
			compare(t, of, s+s)
		}
	}
}

// P601: every text of at most two bytes, and every one of three or four that names have.
func TestOfShortTexts(t *testing.T) {
	of := byName()
	expectOf(t, "", 0, false)
	for a := range 256 {
		compare(t, of, string([]byte{byte(a)}))
		for b := range 256 {
			compare(t, of, string([]byte{byte(a), byte(b)}))
		}
	}
	const bytes = great + "()+-*/=<>@!.0 "
	for at := range len(bytes) * len(bytes) * len(bytes) {
		s := string([]byte{bytes[at%len(bytes)], bytes[at/len(bytes)%len(bytes)], bytes[at/len(bytes)/len(bytes)]})
		compare(t, of, s)
		compare(t, of, s+"T")
		compare(t, of, "("+s)
	}
}

// P601: letters of other alphabets are none of a to z, also where one is taken for the other elsewhere.
func TestOfOtherLetters(t *testing.T) {
	// Of these each becomes one of A to Z, or of a to z, if it is made great or small by the rules of all alphabets.
	for letter, others := range map[string]string{"I": "\u0131\u0130", "S": "\u017f", "K": "\u212a"} {
		for _, r := range rows() {
			for _, other := range others {
				if s := strings.Replace(r.name, letter, string(other), 1); s != r.name {
					expectOf(t, s, 0, false)
				}
				low := strings.ToLower(r.name)
				if s := strings.Replace(low, strings.ToLower(letter), string(other), 1); s != low {
					expectOf(t, s, 0, false)
				}
			}
		}
	}
	for _, s := range []string{
		"\u212aEY", "\u212aey", "\u017fWAP", "\u017fwap", "\u017f", "\u0131", "em\u0131t", "\uff24\uff35\uff30", "\u0414\u0423\u0420", "\u00d7", "\xff", "D\x00P", "\x00",
	} {
		expectOf(t, s, 0, false)
	}
}

// P601: texts that are no names: words of the outer, numbers, names with others around them, long ones.
func TestOfOthers(t *testing.T) {
	for _, s := range []string{
		" ", "  ", "\n", " DUP", "DUP ", "\tDUP", "DUP\n", "DUP\x00", "DUP DROP", "DUPX", "XDUP", "DU", "UP",
		"DO", "LOOP", "+LOOP", "(DO", "DO)", "( DO)", "I", "ZERO", "COPY", "ADD", "SUB", "TOBACK", "FETCH", "STORE", "LEFT", "RIGHT",
		"0", "1", "6", "47", "-1", "0B", "0 <", "U <", "<U", "=0", "!+", "R >", ">r ", "@R", "NEGATED", "BRANCH0", "OBRANCH",
		strings.Repeat("DUP", 1000), strings.Repeat("A", 1<<20), strings.Repeat("\x00", 1<<20), "J" + strings.Repeat(" ", 1<<16),
	} {
		expectOf(t, s, 0, false)
	}
}
