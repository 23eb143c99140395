// Package cell reckons with cells: whole numbers of 64 bits that go round.
package cell

import (
	"math"

	"holloway/api"
)

// Two reckons with two cells: a is the lower one of a stack, b the upper one.
// It tells false, if op is no operation of two cells, or divides by 0.
func Two(op, a, b int) (int, bool) {
	switch op {
	case api.Sub:
		// Going round, the least number is its own opposite: so this holds of it too.
		b = -b
		fallthrough
	case api.Add:
		return a + b, true
	case api.Mul:
		return a * b, true
	case api.Div, api.Mod:
		return divide(op, a, b)
	case api.And, api.Or, api.Xor:
		return join(op, a, b), true
	case api.Left, api.Right:
		return shift(op, a, b), true
	case api.Equal, api.Less, api.ULess:
		return Flag(holds(op, a, b)), true
	case api.Min, api.Max:
		return pick(op, a, b), true
	}
	return 0, false
}

// One reckons with one cell. It tells false, if op is no operation of one.
func One(op, a int) (int, bool) {
	switch op {
	case api.Negate:
		// To turn every bit tells the opposite less 1: one less beforehand makes that good.
		a--
		fallthrough
	case api.Invert:
		return ^a, true
	case api.IsZero:
		return Flag(a == 0), true
	case api.IsNeg:
		return Flag(a < 0), true
	}
	return 0, false
}

// Floor tells the quotient, rounded down, and the rest, which has b's sign or is 0; false, if b is 0.
func Floor(a, b int) (int, int, bool) {
	if b == 0 {
		return 0, 0, false
	}
	// The language's division goes round of the least number by -1: that number, and no rest.
	quotient, rest := a/b, a%b
	if rest != 0 && (rest < 0) != (b < 0) {
		quotient--
		rest += b
	}
	return quotient, rest, true
}

// Crosses tells whether a loop's index passes its limit, where x is the index less the limit and n is what is added to it.
func Crosses(x, n int) bool {
	return (x^(x+n))&(x^n) < 0
}

// Flag tells a truth as a cell.
func Flag(is bool) int {
	if is {
		return -1
	}
	return 0
}

// divide tells the quotient, or the rest if op is Mod.
func divide(op, a, b int) (int, bool) {
	quotient, rest, is := Floor(a, b)
	if op == api.Mod {
		return rest, is
	}
	return quotient, is
}

// join tells And, Or or Xor, bit by bit.
func join(op, a, b int) int {
	switch op {
	case api.And:
		return a & b
	case api.Or:
		return a | b
	}
	return a ^ b
}

// shift tells a shifted by b bits, left or right; no bit of it is left beyond 63.
func shift(op, a, b int) int {
	if b < 0 || b > 63 {
		return 0
	}
	if op == api.Left {
		return a << uint(b)
	}
	// Without a sign, so that zeros come in.
	return int(uint(a) >> uint(b))
}

// holds tells whether a and b are Equal, or in the order that op asks for.
func holds(op, a, b int) bool {
	switch op {
	case api.ULess:
		// With the highest bit of both turned, numbers are in the order that they have without a sign.
		a ^= math.MinInt
		b ^= math.MinInt
		fallthrough
	case api.Less:
		return a < b
	}
	return a == b
}

// pick tells the lesser one, or the greater one if op is Max.
func pick(op, a, b int) int {
	if (op == api.Max) == (a < b) {
		return b
	}
	return a
}
