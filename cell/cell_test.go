package cell_test

import (
	"math"
	"math/big"
	"testing"

	"holloway/api"
	"holloway/cell"
)

const (
	least    = math.MinInt
	greatest = math.MaxInt
)

// edges are cells at which operations turn; grid takes each with each.
var edges = []int{
	least, least + 1, least + 2, least / 2, -1 << 32, -100, -65, -64, -63, -33, -8, -7, -3, -2, -1,
	0, 1, 2, 3, 7, 8, 31, 32, 33, 62, 63, 64, 65, 100, 127, 128, 1 << 31, 1 << 32, 1 << 62, greatest - 1, greatest,
	0x5555555555555555, -0x5555555555555556, 0x0123456789abcdef,
}

var twos = []int{
	api.Add, api.Sub, api.Mul, api.Div, api.Mod, api.And, api.Or, api.Xor,
	api.Left, api.Right, api.Equal, api.Less, api.ULess, api.Min, api.Max,
}

var ones = []int{api.Negate, api.Invert, api.IsZero, api.IsNeg}

// round brings a number of any size back into a cell.
func round(x *big.Int) int {
	low := new(big.Int).And(x, new(big.Int).SetUint64(math.MaxUint64))
	return int(low.Uint64())
}

// unsigned is a cell as a number without a sign.
func unsigned(a int) *big.Int { return new(big.Int).SetUint64(uint64(a)) }

func flag(is bool) int {
	if is {
		return -1
	}
	return 0
}

// floor divides in numbers of any size, b is not 0.
func floor(a, b int) (int, int) {
	x, y := big.NewInt(int64(a)), big.NewInt(int64(b))
	quotient, rest := new(big.Int).DivMod(x, y, new(big.Int))
	// big's rest is never below 0.
	if rest.Sign() != 0 && b < 0 {
		quotient.Sub(quotient, big.NewInt(1))
		rest.Add(rest, y)
	}
	return round(quotient), round(rest)
}

// bits joins two cells bit by bit, by a rule of how many of the two bits are set.
func bits(a, b int, rule func(set int) bool) int {
	out := new(big.Int)
	for i := range 64 {
		set := int(unsigned(a).Bit(i) + unsigned(b).Bit(i))
		if rule(set) {
			out.SetBit(out, i, 1)
		}
	}
	return round(out)
}

// wantTwo is what Two is asked to tell, reckoned in numbers of any size.
func wantTwo(op, a, b int) (int, bool) {
	x, y, z := big.NewInt(int64(a)), big.NewInt(int64(b)), new(big.Int)
	switch op {
	case api.Add:
		return round(z.Add(x, y)), true
	case api.Sub:
		return round(z.Sub(x, y)), true
	case api.Mul:
		return round(z.Mul(x, y)), true
	case api.Div, api.Mod:
		if b == 0 {
			return 0, false
		}
		quotient, rest := floor(a, b)
		if op == api.Div {
			return quotient, true
		}
		return rest, true
	case api.And:
		return bits(a, b, func(set int) bool { return set == 2 }), true
	case api.Or:
		return bits(a, b, func(set int) bool { return set >= 1 }), true
	case api.Xor:
		return bits(a, b, func(set int) bool { return set == 1 }), true
	case api.Left, api.Right:
		if b < 0 || b > 63 {
			return 0, true
		}
		if op == api.Left {
			return round(z.Lsh(unsigned(a), uint(b))), true
		}
		return round(z.Rsh(unsigned(a), uint(b))), true
	case api.Equal:
		return flag(x.Cmp(y) == 0), true
	case api.Less:
		return flag(x.Cmp(y) < 0), true
	case api.ULess:
		return flag(unsigned(a).Cmp(unsigned(b)) < 0), true
	case api.Min:
		if x.Cmp(y) < 0 {
			return a, true
		}
		return b, true
	case api.Max:
		if x.Cmp(y) > 0 {
			return a, true
		}
		return b, true
	}
	return 0, false
}

// wantOne is what One is asked to tell.
func wantOne(op, a int) (int, bool) {
	x := big.NewInt(int64(a))
	switch op {
	case api.Negate:
		return round(new(big.Int).Neg(x)), true
	case api.Invert:
		return round(new(big.Int).Not(x)), true
	case api.IsZero:
		return flag(x.Sign() == 0), true
	case api.IsNeg:
		return flag(x.Sign() < 0), true
	}
	return 0, false
}

// others are the numbers, in and out of the table of operations, that are not in known.
func others(known []int) []int {
	is := map[int]bool{}
	for _, op := range known {
		is[op] = true
	}
	out := []int{least, least + 1, -1 << 32, 256 + api.Add, 1<<32 + api.Add, 1<<32 + api.Negate, greatest}
	for op := -70; op < 200; op++ {
		if !is[op] {
			out = append(out, op)
		}
	}
	return out
}

// P101: each operation of two, by hand.
func TestTwoByHand(t *testing.T) {
	for _, c := range []struct {
		what           string
		op, a, b, want int
		is             bool
	}{
		{"a sum", api.Add, 2, 3, 5, true},
		{"a sum that goes round", api.Add, greatest, 1, least, true},
		{"a sum that goes round downward", api.Add, least, -1, greatest, true},
		{"a sum of the least with itself", api.Add, least, least, 0, true},
		{"a difference", api.Sub, 2, 3, -1, true},
		{"a difference that goes round", api.Sub, least, 1, greatest, true},
		{"a difference from the least", api.Sub, 0, least, least, true},
		{"a difference of the least from below 0", api.Sub, -1, least, greatest, true},
		{"a difference of the greatest", api.Sub, -2, greatest, greatest, true},
		{"a product", api.Mul, -6, 7, -42, true},
		{"a product that goes round", api.Mul, 1 << 40, 1 << 40, 0, true},
		{"a product that goes round to the least", api.Mul, 1 << 62, 2, least, true},
		{"the least by -1", api.Mul, least, -1, least, true},
		{"the greatest by itself", api.Mul, greatest, greatest, 1, true},
		{"a quotient", api.Div, 7, 2, 3, true},
		{"a quotient, rounded down", api.Div, -7, 2, -4, true},
		{"a quotient by less than 0, rounded down", api.Div, 7, -2, -4, true},
		{"a quotient of two below 0", api.Div, -7, -2, 3, true},
		{"a quotient without a rest", api.Div, -8, 2, -4, true},
		{"a quotient of the least by -1", api.Div, least, -1, least, true},
		{"a quotient by 0", api.Div, 7, 0, 0, false},
		{"a quotient of 0 by 0", api.Div, 0, 0, 0, false},
		{"a rest", api.Mod, 7, 2, 1, true},
		{"a rest of less than 0", api.Mod, -7, 2, 1, true},
		{"a rest with the sign of b", api.Mod, 7, -2, -1, true},
		{"a rest of two below 0", api.Mod, -7, -2, -1, true},
		{"a rest that is 0", api.Mod, -8, 2, 0, true},
		{"a rest of the least by -1", api.Mod, least, -1, 0, true},
		{"a rest by 0", api.Mod, 7, 0, 0, false},
		{"a rest of the least by 0", api.Mod, least, 0, 0, false},
		{"and", api.And, 12, 10, 8, true},
		{"or", api.Or, 12, 10, 14, true},
		{"xor", api.Xor, 12, 10, 6, true},
		{"and with a sign", api.And, -1, least, least, true},
		{"left", api.Left, 3, 2, 12, true},
		{"left by 0", api.Left, -5, 0, -5, true},
		{"left by 63", api.Left, 3, 63, least, true},
		{"left by 64", api.Left, 3, 64, 0, true},
		{"left by 65", api.Left, 3, 65, 0, true},
		{"left by -1", api.Left, 3, -1, 0, true},
		{"left by -64", api.Left, 3, -64, 0, true},
		{"left by the least", api.Left, 3, least, 0, true},
		{"left by the greatest", api.Left, 3, greatest, 0, true},
		{"right", api.Right, 12, 2, 3, true},
		{"right by 0", api.Right, -8, 0, -8, true},
		{"right, zeros come in", api.Right, -1, 1, greatest, true},
		{"right by 63", api.Right, -1, 63, 1, true},
		{"right by 64", api.Right, -1, 64, 0, true},
		{"right by 65", api.Right, -1, 65, 0, true},
		{"right by -1", api.Right, -1, -1, 0, true},
		{"right by -63", api.Right, -1, -63, 0, true},
		{"right by the least", api.Right, -1, least, 0, true},
		{"right by the greatest", api.Right, -1, greatest, 0, true},
		{"equal", api.Equal, 3, 3, -1, true},
		{"not equal", api.Equal, 3, 4, 0, true},
		{"not equal in the highest bit alone", api.Equal, least, 0, 0, true},
		{"less", api.Less, -1, 1, -1, true},
		{"not less", api.Less, 1, -1, 0, true},
		{"not less than itself", api.Less, 4, 4, 0, true},
		{"the least is less", api.Less, least, greatest, -1, true},
		{"less without a sign", api.ULess, 1, -1, -1, true},
		{"not less without a sign", api.ULess, -1, 1, 0, true},
		{"less without a sign, both below 0", api.ULess, -2, -1, -1, true},
		{"not less than itself without a sign", api.ULess, -1, -1, 0, true},
		{"the greatest is less than the least", api.ULess, greatest, least, -1, true},
		{"the lesser one", api.Min, -3, 2, -3, true},
		{"the lesser one behind", api.Min, 2, -3, -3, true},
		{"the lesser of two alike", api.Min, 2, 2, 2, true},
		{"the greater one", api.Max, -3, 2, 2, true},
		{"the greater one ahead", api.Max, 2, -3, 2, true},
		{"the greater of two alike", api.Max, -3, -3, -3, true},
		{"the greater of the ends", api.Max, least, greatest, greatest, true},
	} {
		if v, is := cell.Two(c.op, c.a, c.b); v != c.want || is != c.is {
			t.Errorf("%s: Two(%d, %d, %d) = %d, %t, not %d, %t", c.what, c.op, c.a, c.b, v, is, c.want, c.is)
		}
	}
}

// P101: each operation of two, each edge with each, against numbers of any size.
func TestTwoGrid(t *testing.T) {
	for _, op := range twos {
		for _, a := range edges {
			for _, b := range edges {
				v, is := cell.Two(op, a, b)
				if want, wantIs := wantTwo(op, a, b); v != want || is != wantIs {
					t.Errorf("Two(%d, %d, %d) = %d, %t, not %d, %t", op, a, b, v, is, want, wantIs)
				}
			}
		}
	}
}

// P101: every number of bits, and those around them.
func TestShifts(t *testing.T) {
	for _, op := range []int{api.Left, api.Right} {
		for _, a := range edges {
			for b := -140; b <= 140; b++ {
				v, is := cell.Two(op, a, b)
				if want, _ := wantTwo(op, a, b); v != want || !is {
					t.Errorf("Two(%d, %d, %d) = %d, %t, not %d, true", op, a, b, v, is, want)
				}
			}
		}
	}
}

// P101: what is no operation of two is refused, whatever the cells are.
func TestTwoOfOthers(t *testing.T) {
	for _, op := range others(twos) {
		for _, a := range edges {
			for _, b := range edges {
				if v, is := cell.Two(op, a, b); v != 0 || is {
					t.Fatalf("Two(%d, %d, %d) = %d, %t, not 0, false", op, a, b, v, is)
				}
			}
		}
	}
}

// P101: each operation of one, by hand.
func TestOneByHand(t *testing.T) {
	for _, c := range []struct {
		what        string
		op, a, want int
	}{
		{"the opposite", api.Negate, 5, -5},
		{"the opposite of less than 0", api.Negate, -5, 5},
		{"the opposite of 0", api.Negate, 0, 0},
		{"the opposite of the least", api.Negate, least, least},
		{"the opposite of the greatest", api.Negate, greatest, least + 1},
		{"every bit of 0", api.Invert, 0, -1},
		{"every bit of -1", api.Invert, -1, 0},
		{"every bit of 5", api.Invert, 5, -6},
		{"every bit of the least", api.Invert, least, greatest},
		{"0 is 0", api.IsZero, 0, -1},
		{"1 is not 0", api.IsZero, 1, 0},
		{"-1 is not 0", api.IsZero, -1, 0},
		{"the least is not 0", api.IsZero, least, 0},
		{"-1 is below 0", api.IsNeg, -1, -1},
		{"the least is below 0", api.IsNeg, least, -1},
		{"0 is not below 0", api.IsNeg, 0, 0},
		{"1 is not below 0", api.IsNeg, 1, 0},
		{"the greatest is not below 0", api.IsNeg, greatest, 0},
	} {
		if v, is := cell.One(c.op, c.a); v != c.want || !is {
			t.Errorf("%s: One(%d, %d) = %d, %t, not %d, true", c.what, c.op, c.a, v, is, c.want)
		}
	}
}

// P101: each operation of one at each edge; what is none is refused.
func TestOneGrid(t *testing.T) {
	for _, a := range edges {
		for _, op := range append(others(ones), ones...) {
			v, is := cell.One(op, a)
			if want, wantIs := wantOne(op, a); v != want || is != wantIs {
				t.Errorf("One(%d, %d) = %d, %t, not %d, %t", op, a, v, is, want, wantIs)
			}
		}
	}
}

// P101: a truth as a cell.
func TestFlag(t *testing.T) {
	if v := cell.Flag(true); v != -1 {
		t.Errorf("Flag(true) = %d, not -1", v)
	}
	if v := cell.Flag(false); v != 0 {
		t.Errorf("Flag(false) = %d, not 0", v)
	}
}

// P102: quotients and rests, by hand.
func TestFloorByHand(t *testing.T) {
	for _, c := range []struct {
		a, b, quotient, rest int
		is                   bool
	}{
		{-7, 2, -4, 1, true},
		{7, -2, -4, -1, true},
		{-7, -2, 3, -1, true},
		{7, 2, 3, 1, true},
		{-6, 2, -3, 0, true},
		{6, -2, -3, 0, true},
		{0, 5, 0, 0, true},
		{0, -5, 0, 0, true},
		{1, -2, -1, -1, true},
		{-1, 2, -1, 1, true},
		{-1, greatest, -1, greatest - 1, true},
		{1, least, -1, least + 1, true},
		{least, -1, least, 0, true},
		{least, 1, least, 0, true},
		{least, 2, least / 2, 0, true},
		{least, greatest, -2, greatest - 1, true},
		{least, least, 1, 0, true},
		{greatest, -1, -greatest, 0, true},
		{greatest, least, -1, -1, true},
		{3, 0, 0, 0, false},
		{0, 0, 0, 0, false},
		{-3, 0, 0, 0, false},
		{least, 0, 0, 0, false},
		{greatest, 0, 0, 0, false},
	} {
		quotient, rest, is := cell.Floor(c.a, c.b)
		if quotient != c.quotient || rest != c.rest || is != c.is {
			t.Errorf("Floor(%d, %d) = %d, %d, %t, not %d, %d, %t", c.a, c.b, quotient, rest, is, c.quotient, c.rest, c.is)
		}
	}
}

// floorOf holds Floor of two cells against numbers of any size.
func floorOf(t *testing.T, a, b int) {
	t.Helper()
	quotient, rest, is := cell.Floor(a, b)
	want, wantRest := 0, 0
	if b != 0 {
		want, wantRest = floor(a, b)
	}
	if quotient != want || rest != wantRest || is != (b != 0) {
		t.Errorf("Floor(%d, %d) = %d, %d, %t, not %d, %d, %t", a, b, quotient, rest, is, want, wantRest, b != 0)
	}
}

// P102: each edge by each, and all small ones.
func TestFloorGrid(t *testing.T) {
	for _, a := range edges {
		for _, b := range edges {
			floorOf(t, a, b)
		}
	}
	for a := -20; a <= 20; a++ {
		for b := -20; b <= 20; b++ {
			floorOf(t, a, b)
		}
	}
}

// P102: whether the index passes its limit, by hand.
func TestCrossesByHand(t *testing.T) {
	for _, c := range []struct {
		x, n int
		want bool
	}{
		{-1, 1, true},
		{-2, 1, false},
		{0, 1, false},
		{-2, 2, true},
		{-2, 5, true},
		{-5, -1, false},
		{0, -1, true},
		{1, -1, false},
		{3, -3, false},
		{3, -4, true},
		{5, 0, false},
		{-5, 0, false},
		{0, 0, false},
		// Going round is no passing: the step and the index have one sign there.
		{greatest, 1, false},
		{greatest, greatest, false},
		{least, -1, false},
		{least, least, false},
		{least, greatest, false},
		{-1, greatest, true},
		{0, least, true},
		{greatest, least, true},
	} {
		if is := cell.Crosses(c.x, c.n); is != c.want {
			t.Errorf("Crosses(%d, %d) = %t, not %t", c.x, c.n, is, c.want)
		}
	}
}

// crossesOf holds Crosses of two cells against the highest bits, reckoned in numbers of any size.
func crossesOf(t *testing.T, x, n int) {
	t.Helper()
	sum := round(new(big.Int).Add(big.NewInt(int64(x)), big.NewInt(int64(n))))
	top := func(a int) uint { return unsigned(a).Bit(63) }
	want := top(x) != top(sum) && top(x) != top(n)
	if is := cell.Crosses(x, n); is != want {
		t.Errorf("Crosses(%d, %d) = %t, not %t", x, n, is, want)
	}
}

// P102: each edge with each, and all small ones.
func TestCrossesGrid(t *testing.T) {
	for _, x := range edges {
		for _, n := range edges {
			crossesOf(t, x, n)
		}
	}
	for x := -20; x <= 20; x++ {
		for n := -20; n <= 20; n++ {
			crossesOf(t, x, n)
		}
	}
}
