package digits_test

import (
	"math"
	"math/big"
	"regexp"
	"strings"
	"testing"

	"holloway/digits"
)

const (
	least    = math.MinInt
	greatest = math.MaxInt
)

// letters are the digits, from 0 on, as they are put.
const letters = "0123456789ABCDEFGHIJKLMNOPQRSTUVWXYZ"

// edges are numbers at which digits turn, in one base or another.
var edges = []int{
	least, least + 1, least + 7, -1 << 62, -1 << 32, -1296, -1000, -256, -255, -37, -36, -35, -17, -16, -11, -10, -9, -3, -2, -1,
	0, 1, 2, 3, 7, 8, 9, 10, 11, 15, 16, 17, 31, 35, 36, 37, 99, 100, 101, 255, 256, 1295, 1296, 46655, 46656, 999_999_999,
	1 << 31, 1 << 32, 1 << 62, 0x0123456789abcdef, -0x0123456789abcdef, greatest - 1, greatest,
}

// wrong are bases that may not be.
var wrong = []int{least, least + 10, -1 << 32, -36, -16, -10, -2, -1, 0, 1, 37, 38, 62, 64, 100, 256 + 10, 1<<32 + 10, greatest}

// round brings a number of any size back into a cell.
func round(x *big.Int) int {
	low := new(big.Int).And(x, new(big.Int).SetUint64(math.MaxUint64))
	return int(low.Uint64())
}

// shape is a text of digits, whatever their base is.
var shape = regexp.MustCompile(`\A([#$%]?)(-?)([0-9A-Za-z]{1,70})\z`)

// wantGet is what Get is asked to tell, reckoned in numbers of any size.
func wantGet(s string, base int) (int, bool) {
	if base < 2 || base > 36 {
		return 0, false
	}
	if len(s) == 3 && s[0] == '\'' && s[2] == '\'' {
		return int(s[1]), true
	}
	parts := shape.FindStringSubmatch(s)
	if parts == nil {
		return 0, false
	}
	if of, is := map[string]int{"#": 10, "$": 16, "%": 2}[parts[1]]; is {
		base = of
	}
	sum := new(big.Int)
	for _, c := range strings.ToUpper(parts[3]) {
		d := strings.IndexRune(letters, c)
		if d >= base {
			return 0, false
		}
		sum.Mul(sum, big.NewInt(int64(base)))
		sum.Add(sum, big.NewInt(int64(d)))
	}
	if parts[2] == "-" {
		sum.Neg(sum)
	}
	return round(sum), true
}

// expect holds what Get tells against what is wanted.
func expect(t *testing.T, s string, base, want int, is bool) {
	t.Helper()
	if v, got := digits.Get(s, base); v != want || got != is {
		t.Errorf("Get(%q, %d) = %d, %t, not %d, %t", s, base, v, got, want, is)
	}
}

// compare holds what Get tells against wantGet.
func compare(t *testing.T, s string, base int) {
	t.Helper()
	want, is := wantGet(s, base)
	expect(t, s, base, want, is)
}

// each calls do for every text of that many bytes, all of them out of alphabet.
func each(alphabet string, long int, do func(s string)) {
	if long == 0 {
		do("")
		return
	}
	each(alphabet, long-1, func(s string) {
		for i := range len(alphabet) {
			do(s + alphabet[i:i+1])
		}
	})
}

// P301: which bases may be.
func TestRight(t *testing.T) {
	for base := -300; base <= 300; base++ {
		if got, want := digits.Right(base), base >= 2 && base <= 36; got != want {
			t.Errorf("Right(%d) = %t", base, got)
		}
	}
	for _, base := range wrong {
		if digits.Right(base) {
			t.Errorf("Right(%d) = true", base)
		}
	}
}

// P301: digits, by hand.
func TestPutByHand(t *testing.T) {
	for _, c := range []struct {
		v, base int
		want    string
	}{
		{0, 10, "0"}, {0, 2, "0"}, {0, 36, "0"}, {7, 10, "7"}, {-7, 10, "-7"}, {10, 10, "10"}, {4950, 10, "4950"},
		{-255, 16, "-FF"}, {255, 16, "FF"}, {255, 2, "11111111"}, {-5, 2, "-101"}, {35, 36, "Z"}, {36, 36, "10"},
		{10, 11, "A"}, {11, 11, "10"}, {15, 15, "10"}, {171, 16, "AB"}, {2, 3, "2"}, {-1, 36, "-1"},
		{greatest, 10, "9223372036854775807"}, {least, 10, "-9223372036854775808"}, {least + 1, 10, "-9223372036854775807"},
		{greatest, 16, "7FFFFFFFFFFFFFFF"}, {least, 16, "-8000000000000000"},
		{greatest, 2, strings.Repeat("1", 63)}, {least, 2, "-1" + strings.Repeat("0", 63)},
		{greatest, 36, "1Y2P0IJ32E8E7"}, {least, 36, "-1Y2P0IJ32E8E8"},
	} {
		if got := digits.Put(c.v, c.base); got != c.want {
			t.Errorf("Put(%d, %d) = %q, not %q", c.v, c.base, got, c.want)
		}
	}
}

// P301: each edge in each base, against numbers of any size; what is put is got again.
func TestPutGrid(t *testing.T) {
	for base := 2; base <= 36; base++ {
		for _, v := range edges {
			got := digits.Put(v, base)
			if want := strings.ToUpper(big.NewInt(int64(v)).Text(base)); got != want {
				t.Errorf("Put(%d, %d) = %q, not %q", v, base, got, want)
			}
			expect(t, got, base, v, true)
			expect(t, strings.ToLower(got), base, v, true)
		}
	}
}

// P301: each digit in each base, letters great.
func TestPutDigits(t *testing.T) {
	for base := 2; base <= 36; base++ {
		for d := range base {
			want := letters[d : d+1]
			if got := digits.Put(d, base); got != want {
				t.Errorf("Put(%d, %d) = %q, not %q", d, base, got, want)
			}
			if got := digits.Put(base+d, base); got != "1"+want {
				t.Errorf("Put(%d, %d) = %q, not %q", base+d, base, got, "1"+want)
			}
		}
	}
}

// P301: a base that may not be has no digits.
func TestPutOfWrongBases(t *testing.T) {
	for _, base := range wrong {
		for _, v := range edges {
			if got := digits.Put(v, base); got != "" {
				t.Errorf("Put(%d, %d) = %q", v, base, got)
			}
		}
	}
}

// P301: texts, by hand.
func TestGetByHand(t *testing.T) {
	for _, c := range []struct {
		s          string
		base, want int
	}{
		{"$-fF", 10, -255}, {"0", 10, 0}, {"7", 10, 7}, {"-7", 10, -7}, {"-0", 10, 0}, {"10", 16, 16}, {"10", 2, 2},
		{"4950", 10, 4950}, {"007", 10, 7}, {"-007", 10, -7}, {"zZ", 36, 1295}, {"Zz", 36, 1295}, {"-z", 36, -35},
		{"#10", 16, 10}, {"#10", 2, 10}, {"#99", 8, 99}, {"#-10", 36, -10}, {"#10", 10, 10},
		{"$10", 10, 16}, {"$10", 2, 16}, {"$ff", 2, 255}, {"$FF", 36, 255}, {"$-10", 16, -16},
		{"%10", 10, 2}, {"%101", 16, 5}, {"%-1", 36, -1}, {"%1", 2, 1}, {"$0", 10, 0}, {"%-0", 10, 0}, {"#000", 2, 0},
		{"A", 11, 10}, {"a", 11, 10}, {"e", 15, 14}, {"F", 16, 15},
		{"'A'", 10, 65}, {"'a'", 10, 97}, {"'''", 10, 39}, {"' '", 10, 32}, {"'-'", 10, 45}, {"'$'", 10, 36}, {"'5'", 2, 53},
	} {
		expect(t, c.s, c.base, c.want, true)
	}
}

// P301: texts that are no numbers.
func TestGetOfOthers(t *testing.T) {
	for _, s := range []string{
		"", "-", "#", "$", "%", "#-", "$-", "%-", "--", "--5", "-#5", "-$5", "-%1", "+", "+5", "$+5", "#+5", "-+5", "+-5", "5-", "5-5",
		"$$5", "##5", "%%1", "#$5", "$#5", "%$1", "$%1", "#-#5", "$--5", "5$", "&5", "&-5", "@5", "!5",
		"2a", "a", "A", "1.5", "1e5", "1_000", "_1", "_", "0x10", "0b1", "0o7", " 5", "5 ", " ", "\t5", "5\n", "5\x00", "\x00", "$ 5", "- 5",
		"$g", "$G", "$-g", "%2", "%-2", "%12", "#a", "#A", "#-a", "5,", ":", "/", "[", "`", "{",
		"'", "''", "'A", "A'", "'AB'", "''''", "'A'B", "B'A'", "-'A'", "$'A'", "'A' ", " 'A'", "'A`", "`A'", "\"A\"", "'é'",
		"é", "\xb5", "\xff", "٣", "５", "Ａ", "−5", "true", "DUP",
	} {
		expect(t, s, 10, 0, false)
		compare(t, s, 10)
	}
}

// P301: the sign says the base, whatever the base is otherwise.
func TestSigns(t *testing.T) {
	for base := 2; base <= 36; base++ {
		for sign, of := range map[string]int{"#": 10, "$": 16, "%": 2} {
			for _, v := range edges {
				s := sign + digits.Put(v, of)
				expect(t, s, base, v, true)
				expect(t, strings.ToLower(s), base, v, true)
			}
			for d := range 36 {
				s := sign + letters[d:d+1]
				if d < of {
					expect(t, s, base, d, true)
				} else {
					expect(t, s, base, 0, false)
				}
				compare(t, strings.ToLower(s), base)
			}
		}
	}
}

// P301: numbers that have no room in a cell go round.
func TestGetGoesRound(t *testing.T) {
	for _, c := range []struct {
		s          string
		base, want int
	}{
		{"9223372036854775807", 10, greatest}, {"9223372036854775808", 10, least}, {"-9223372036854775808", 10, least},
		{"-9223372036854775809", 10, greatest}, {"18446744073709551615", 10, -1}, {"18446744073709551616", 10, 0},
		{"18446744073709551617", 10, 1}, {"-18446744073709551617", 10, -1}, {"$8000000000000000", 10, least},
		{"$-8000000000000000", 10, least}, {"$ffffffffffffffff", 10, -1}, {"$-FFFFFFFFFFFFFFFF", 10, 1},
		{"$10000000000000000", 10, 0}, {"$fedcba9876543210123456789abcdef", 10, 0x0123456789abcdef},
		{"%1" + strings.Repeat("0", 63), 10, least}, {"%1" + strings.Repeat("0", 64), 10, 0},
		{"%" + strings.Repeat("1", 70), 10, -1}, {"%-" + strings.Repeat("1", 70), 10, 1},
	} {
		expect(t, c.s, c.base, c.want, true)
	}
}

// P301: texts of each length up to beyond the most, in each base, against numbers of any size.
func TestLengths(t *testing.T) {
	for base := 2; base <= 36; base++ {
		for long := 0; long <= 75; long++ {
			s := ""
			for i := range long {
				d := (i*i*7 + i*base + long + 1) % base
				s += letters[d : d+1]
			}
			for _, ahead := range []string{"", "-"} {
				compare(t, ahead+s, base)
				compare(t, ahead+strings.ToLower(s), base)
				_, is := digits.Get(ahead+s, base)
				if want := long >= 1 && long <= 70; is != want {
					t.Errorf("%d digits: Get(%q, %d): %t", long, ahead+s, base, is)
				}
			}
		}
	}
}

// P301: at most 70 digits: zeros ahead are counted, a sign and a minus are not.
func TestMostDigits(t *testing.T) {
	for _, ahead := range []string{"", "-", "#", "$", "%", "#-", "$-", "%-"} {
		want := 1
		if strings.HasSuffix(ahead, "-") {
			want = -1
		}
		for _, base := range []int{2, 10, 16, 36} {
			expect(t, ahead+strings.Repeat("0", 68)+"1", base, want, true)
			expect(t, ahead+strings.Repeat("0", 69)+"1", base, want, true)
			expect(t, ahead+strings.Repeat("0", 70)+"1", base, 0, false)
			expect(t, ahead+strings.Repeat("0", 70), base, 0, true)
			expect(t, ahead+strings.Repeat("0", 71), base, 0, false)
			expect(t, ahead+strings.Repeat("1", 1<<20), base, 0, false)
		}
	}
}

// P301: one wrong byte is enough, wherever it is.
func TestWrongDigitAnywhere(t *testing.T) {
	for _, s := range []string{"111x1111", "x1111111", "1111111x", "11 11", "1-1", "-1-", "1$", "1'1", "11é"} {
		for _, ahead := range []string{"", "-", "#", "$-", "%"} {
			expect(t, ahead+s, 10, 0, false)
		}
	}
}

// P301: each byte by itself, and each two, in each base.
func TestGetOfFewBytes(t *testing.T) {
	all := make([]byte, 256)
	for i := range all {
		all[i] = byte(i)
	}
	for base := 2; base <= 36; base++ {
		each(string(all), 1, func(s string) { compare(t, s, base) })
	}
	for _, base := range []int{2, 10, 36} {
		each(string(all), 2, func(s string) { compare(t, s, base) })
	}
}

// P301: every short text of bytes that matter.
func TestGetOfShortTexts(t *testing.T) {
	for _, base := range []int{2, 10, 16} {
		for long := range 5 {
			each("#$%-+'019aFg ", long, func(s string) { compare(t, s, base) })
		}
	}
}

// P301: any byte between apostrophes, in any base that may be.
func TestGetOfBytes(t *testing.T) {
	for base := 2; base <= 36; base++ {
		for c := range 256 {
			expect(t, "'"+string([]byte{byte(c)})+"'", base, c, true)
		}
	}
	for c := range 256 {
		one := string([]byte{byte(c)})
		for _, s := range []string{"'" + one, one + "'", "'" + one + one + "'", "-'" + one + "'", "#'" + one + "'", "'" + one + "' ", "'" + one + "''"} {
			expect(t, s, 10, 0, false)
		}
	}
}

// P301: in a base that may not be nothing is a number, whatever sign is ahead.
func TestGetOfWrongBases(t *testing.T) {
	for _, base := range wrong {
		for _, s := range []string{"", "0", "1", "-1", "10", "a", "Z", "#1", "$1", "%1", "#-1", "$-fF", "'A'", "'''", "-"} {
			expect(t, s, base, 0, false)
		}
	}
}
