package tests

import (
	"fmt"
	"math"
	"math/big"
	"slices"
	"strconv"
	"strings"
	"testing"
	"unsafe"

	"loop.example/g01921/impl"
)

// Promise 2, as far as rationals go: they can be parsed from their string format, and no other strings are accepted.
// Package math/big serves as the independent reference.

type rational = impl.Rational

const largest = impl.MaxRational

func over(num int, den int) rational {
	return rational{Num: num, Den: den}
}

func overEach(pairs [][2]int) []rational {
	var all []rational
	for _, pair := range pairs {
		all = append(all, over(pair[0], pair[1]))
	}
	return all
}

// fraction returns the valid rational that equals x, if there is one.
func fraction(x *big.Rat) (rational, bool) {
	limit := big.NewInt(largest)
	if x.Num().CmpAbs(limit) > 0 || x.Denom().CmpAbs(limit) > 0 {
		return rational{}, false
	}
	return rational{Num: int(x.Num().Int64()), Den: int(x.Denom().Int64())}, true
}

func bigRational(r rational) *big.Rat {
	return big.NewRat(int64(r.Num), int64(r.Den))
}

// isValidReference checks the three conditions of the document one by one.
func isValidReference(r rational) bool {
	if r.Den < 1 || r.Den > largest || r.Num < -largest || r.Num > largest {
		return false
	}
	num, den := new(big.Int).Abs(big.NewInt(int64(r.Num))), big.NewInt(int64(r.Den))
	return new(big.Int).GCD(nil, nil, num, den).Int64() == 1
}

// extremeParts returns numbers around the limits at which a part becomes invalid or a calculation overflows.
func extremeParts() []int {
	positive := []int{
		1, 2, 3, 4, 6, 7, 46340, 46341, 65535, 65536, 65537, 1 << 30,
		largest - 2, largest - 1, largest, largest + 1, largest + 2, 2 * largest, 3 * largest,
		1<<32 - 1, 1 << 32, 1<<32 + 1, largest * largest, 1 << 62, math.MaxInt - 1, math.MaxInt,
	}
	parts := []int{0, math.MinInt}
	for _, n := range positive {
		parts = append(parts, n, -n)
	}
	return parts
}

// extremeRationals returns all pairs of extreme parts, most of them invalid.
func extremeRationals() []rational {
	var all []rational
	for _, num := range extremeParts() {
		for _, den := range extremeParts() {
			all = append(all, over(num, den))
		}
	}
	return all
}

func smallRationals(limit int) []rational {
	var all []rational
	for num := -limit; num <= limit; num++ {
		for den := -limit; den <= limit; den++ {
			all = append(all, over(num, den))
		}
	}
	return all
}

func sampleRationals() []rational {
	return append(smallRationals(12), extremeRationals()...)
}

func validRationals(candidates []rational) []rational {
	return slices.DeleteFunc(candidates, func(r rational) bool { return !isValidReference(r) })
}

// operandRationals returns valid and invalid rationals, few enough to try all pairs.
func operandRationals() []rational {
	operands := append(validRationals(smallRationals(5)), validRationals(extremeRationals())...)
	return append(operands, invalidRationals()...)
}

func invalidRationals() []rational {
	return overEach([][2]int{
		{0, 0}, {0, 2}, {0, -1}, {1, 0}, {-1, 0}, {2, 2}, {2, 4}, {-6, 4}, {1, -1}, {1, -2}, {-3, -2}, {2, -4},
		{largest + 1, 1}, {-largest - 1, 1}, {1, largest + 1}, {1, -largest - 1}, {1, -largest},
		{largest, largest}, {-largest, largest}, {largest + 1, largest}, {largest, largest + 1},
		{1, 1 << 32}, {1 << 32, 1}, {3 << 32, 1}, {1, 1<<32 + 1},
		{1, math.MaxInt}, {math.MaxInt, 1}, {math.MaxInt, math.MaxInt}, {1, math.MinInt}, {0, math.MinInt},
		{math.MinInt, 1}, {math.MinInt, -1}, {math.MinInt, 0}, {math.MinInt, 3},
		{math.MinInt, math.MinInt}, {math.MinInt, math.MaxInt}, {math.MaxInt, math.MinInt},
	})
}

func expectRational(t *testing.T, what string, got rational, gotOK bool, want rational, wantOK bool) {
	t.Helper()
	if got != want || gotOK != wantOK {
		t.Errorf("%s = %v, %v, want %v, %v", what, got, gotOK, want, wantOK)
	}
}

func expectParsed(t *testing.T, s string, want rational, wantOK bool) {
	t.Helper()
	r, ok := impl.ParseRational(s)
	expectRational(t, fmt.Sprintf("ParseRational(%q)", s), r, ok, want, wantOK)
}

func expectMade(t *testing.T, num int, den int, want rational, wantOK bool) {
	t.Helper()
	r, ok := impl.MakeRational(num, den)
	expectRational(t, fmt.Sprintf("MakeRational(%d, %d)", num, den), r, ok, want, wantOK)
}

func describe(name string, a rational, b rational) string {
	return fmt.Sprintf("%s(%v, %v)", name, a, b)
}

func TestIsValidRational(t *testing.T) {
	for _, r := range overEach([][2]int{
		{0, 1}, {1, 1}, {-1, 1}, {3, 2}, {-3, 2}, {1, 6}, {largest, 1}, {-largest, 1}, {1, largest}, {-1, largest},
		{largest, largest - 1}, {-largest, largest - 1}, {largest - 1, largest}, {-largest + 1, largest},
	}) {
		if !impl.IsValidRational(r) {
			t.Errorf("IsValidRational(%v) = false", r)
		}
	}
	for _, r := range invalidRationals() {
		if impl.IsValidRational(r) {
			t.Errorf("IsValidRational(%v) = true", r)
		}
	}
	for _, r := range sampleRationals() {
		if got := impl.IsValidRational(r); got != isValidReference(r) {
			t.Errorf("IsValidRational(%v) = %v", r, got)
		}
	}
	if impl.MaxRational != 1<<31-1 {
		t.Error("MaxRational", impl.MaxRational)
	}
}

func TestMakeRationalValues(t *testing.T) {
	for _, c := range []struct {
		num, den int
		want     rational
		wantOK   bool
	}{
		{6, -4, over(-3, 2), true},
		{-6, -4, over(3, 2), true},
		{0, 5, over(0, 1), true},
		{0, -5, over(0, 1), true},
		{0, math.MaxInt, over(0, 1), true},
		{0, math.MinInt + 1, over(0, 1), true},
		{8, 2, over(4, 1), true},
		{0, 0, rational{}, false},
		{1, 0, rational{}, false},
		{math.MaxInt, math.MaxInt, over(1, 1), true},
		{math.MinInt + 1, math.MaxInt, over(-1, 1), true},
		{math.MaxInt, math.MinInt + 1, over(-1, 1), true},
		{2 * largest, 2, over(largest, 1), true},
		{-2 * largest, 2, over(-largest, 1), true},
		{2, 2 * largest, over(1, largest), true},
		{2, -2 * largest, over(-1, largest), true},
		{largest, 1, over(largest, 1), true},
		{largest + 1, 1, rational{}, false},
		{-largest - 1, 1, rational{}, false},
		{largest + 1, 2, over(1<<30, 1), true},
		{1, largest + 1, rational{}, false},
		{1, -largest - 1, rational{}, false},
		{largest + 1, largest, rational{}, false},
		{math.MaxInt, 1, rational{}, false},
		{1, math.MaxInt, rational{}, false},
	} {
		expectMade(t, c.num, c.den, c.want, c.wantOK)
	}
}

// Even where the quotient would be a valid rational, the number -2^63 is refused.
func TestMakeRationalRefusesLeastInt(t *testing.T) {
	for _, other := range extremeParts() {
		expectMade(t, other, math.MinInt, rational{}, false)
		expectMade(t, math.MinInt, other, rational{}, false)
	}
}

func TestMakeRationalAgainstReference(t *testing.T) {
	for _, r := range sampleRationals() {
		var want rational
		wantOK := r.Den != 0 && r.Num != math.MinInt && r.Den != math.MinInt
		if wantOK {
			want, wantOK = fraction(bigRational(r))
		}
		expectMade(t, r.Num, r.Den, want, wantOK)
	}
}

func TestRationalArithmeticValues(t *testing.T) {
	half, third := over(1, 2), over(1, 3)
	for _, c := range []struct {
		name      string
		calculate func(rational, rational) (rational, bool)
		a, b      rational
		want      rational
		wantOK    bool
	}{
		{"AddRationals", impl.AddRationals, half, third, over(5, 6), true},
		{"AddRationals", impl.AddRationals, half, half, over(1, 1), true},
		{"AddRationals", impl.AddRationals, half, over(-1, 2), over(0, 1), true},
		{"AddRationals", impl.AddRationals, over(largest-1, 1), over(1, 1), over(largest, 1), true},
		{"AddRationals", impl.AddRationals, over(largest, 1), over(1, 1), rational{}, false},
		{"AddRationals", impl.AddRationals, over(largest, 1), over(largest, 1), rational{}, false},
		{"SubtractRationals", impl.SubtractRationals, third, half, over(-1, 6), true},
		{"SubtractRationals", impl.SubtractRationals, half, half, over(0, 1), true},
		{"SubtractRationals", impl.SubtractRationals, over(1-largest, 1), over(1, 1), over(-largest, 1), true},
		{"SubtractRationals", impl.SubtractRationals, over(-largest, 1), over(1, 1), rational{}, false},
		{"SubtractRationals", impl.SubtractRationals, over(-largest, largest-1), over(largest, largest-1), over(-largest, 1<<30-1), true},
		{"SubtractRationals", impl.SubtractRationals, over(-largest, 2), over(largest, 3), rational{}, false},
		{"MultiplyRationals", impl.MultiplyRationals, over(2, 3), over(3, 4), half, true},
		{"MultiplyRationals", impl.MultiplyRationals, over(0, 1), half, over(0, 1), true},
		{"MultiplyRationals", impl.MultiplyRationals, over(largest, 1), over(1, largest), over(1, 1), true},
		{"MultiplyRationals", impl.MultiplyRationals, over(1, largest), half, rational{}, false},
		{"MultiplyRationals", impl.MultiplyRationals, over(largest, 1), over(-largest, 1), rational{}, false},
		{"DivideRationals", impl.DivideRationals, half, over(1, 4), over(2, 1), true},
		{"DivideRationals", impl.DivideRationals, half, over(-1, 4), over(-2, 1), true},
		{"DivideRationals", impl.DivideRationals, over(0, 1), half, over(0, 1), true},
		{"DivideRationals", impl.DivideRationals, half, over(0, 1), rational{}, false},
		{"DivideRationals", impl.DivideRationals, over(0, 1), over(0, 1), rational{}, false},
		{"DivideRationals", impl.DivideRationals, over(largest, 1), over(largest, 1), over(1, 1), true},
		{"DivideRationals", impl.DivideRationals, over(largest, 1), half, rational{}, false},
	} {
		r, ok := c.calculate(c.a, c.b)
		expectRational(t, describe(c.name, c.a, c.b), r, ok, c.want, c.wantOK)
	}
}

func TestRationalArithmeticAgainstReference(t *testing.T) {
	zero := over(0, 1)
	for _, o := range []struct {
		name      string
		calculate func(rational, rational) (rational, bool)
		reference func(*big.Rat, *big.Rat, *big.Rat) *big.Rat
	}{
		{"AddRationals", impl.AddRationals, (*big.Rat).Add},
		{"SubtractRationals", impl.SubtractRationals, (*big.Rat).Sub},
		{"MultiplyRationals", impl.MultiplyRationals, (*big.Rat).Mul},
		{"DivideRationals", impl.DivideRationals, (*big.Rat).Quo},
	} {
		for _, a := range operandRationals() {
			for _, b := range operandRationals() {
				var want rational
				wantOK := isValidReference(a) && isValidReference(b) && (o.name != "DivideRationals" || b != zero)
				if wantOK {
					want, wantOK = fraction(o.reference(new(big.Rat), bigRational(a), bigRational(b)))
				}
				got, ok := o.calculate(a, b)
				expectRational(t, describe(o.name, a, b), got, ok, want, wantOK)
			}
		}
	}
}

func TestCompareRationals(t *testing.T) {
	if impl.CompareRationals(over(1, 3), over(1, 2)) != -1 || impl.CompareRationals(over(1, 2), over(1, 3)) != 1 ||
		impl.CompareRationals(over(1, 2), over(1, 2)) != 0 || impl.CompareRationals(over(-1, 2), over(-1, 3)) != -1 {
		t.Error("halves and thirds")
	}
	for _, a := range operandRationals() {
		for _, b := range operandRationals() {
			want := 0
			if isValidReference(a) && isValidReference(b) {
				want = bigRational(a).Cmp(bigRational(b))
			}
			if got := impl.CompareRationals(a, b); got != want {
				t.Errorf("%s = %d, want %d", describe("CompareRationals", a, b), got, want)
			}
		}
	}
}

func TestCeilRationalValues(t *testing.T) {
	for _, c := range []struct {
		r    rational
		want int
	}{
		{over(7, 3), 3},
		{over(6, 1), 6},
		{over(1, 3), 1},
		{over(0, 1), 0},
		{over(-1, 3), 0},
		{over(-3, 2), -1},
		{over(-7, 3), -2},
		{over(-6, 1), -6},
		{over(largest, 1), largest},
		{over(-largest, 1), -largest},
		{over(1, largest), 1},
		{over(-1, largest), 0},
		{over(largest, largest-1), 2},
		{over(-largest, largest-1), -1},
		{over(largest, 2), 1 << 30},
		{over(-largest, 2), 1 - 1<<30},
	} {
		if got := impl.CeilRational(c.r); got != c.want {
			t.Errorf("CeilRational(%v) = %d, want %d", c.r, got, c.want)
		}
	}
}

func TestCeilRationalAgainstReference(t *testing.T) {
	for _, r := range append(sampleRationals(), invalidRationals()...) {
		ceiling := impl.CeilRational(r)
		if !isValidReference(r) {
			if ceiling != 0 {
				t.Errorf("CeilRational(%v) = %d, but the rational is invalid", r, ceiling)
			}
			continue
		}
		at, below := big.NewRat(int64(ceiling), 1), big.NewRat(int64(ceiling)-1, 1)
		if at.Cmp(bigRational(r)) < 0 || below.Cmp(bigRational(r)) >= 0 {
			t.Errorf("CeilRational(%v) = %d", r, ceiling)
		}
	}
}

func TestFormatRational(t *testing.T) {
	for _, c := range []struct {
		r    rational
		want string
	}{
		{over(3, 2), "3/2"},
		{over(-3, 2), "-3/2"},
		{over(4, 1), "4"},
		{over(-4, 1), "-4"},
		{over(0, 1), "0"},
		{over(1, 10), "1/10"},
		{over(largest, 1), "2147483647"},
		{over(-largest, 1), "-2147483647"},
		{over(1, largest), "1/2147483647"},
		{over(-largest, largest-1), "-2147483647/2147483646"},
	} {
		if got := impl.FormatRational(c.r); got != c.want {
			t.Errorf("FormatRational(%v) = %q, want %q", c.r, got, c.want)
		}
		expectParsed(t, c.want, c.r, true)
	}
	for _, r := range invalidRationals() {
		if got := impl.FormatRational(r); got != "" {
			t.Errorf("FormatRational(%v) = %q, but the rational is invalid", r, got)
		}
	}
}

func TestRationalRoundTrip(t *testing.T) {
	for _, r := range sampleRationals() {
		s := impl.FormatRational(r)
		if isValidReference(r) {
			expectParsed(t, s, r, true)
		} else if s != "" {
			t.Errorf("FormatRational(%v) = %q, but the rational is invalid", r, s)
		}
	}
}

func TestParseRationalRejects(t *testing.T) {
	for _, s := range []string{
		"", "/", "-", "1/", "/1", "-/1", "1/-", "--1", "1//2", "1/2/3", "1/2/", "/1/2",
		"2/4", "-6/4", "4/1", "-4/1", "0/1", "0/2", "-0", "-0/3", "1/0", "0/0", "-1/0", "2/2", "2147483647/2147483647",
		"1/-2", "-1/-2", "3/-1", "+3", "+3/2", "3/+2", "03", "03/2", "3/02", "-03/2", "00", "3/2 ", " 3/2", "3 /2", "3/ 2", "3/2\n",
		"1_0", "1_0/3", "0x1", "1e1", "1.5", "1.0", "3:2", "3÷2", "3\\2", "a", "a/2", "3/a", "3/2a", "\x003/2", "3/2\x00", "\xff", "3/\xff",
		"３", "３/2", "3/２", "3∕2", "−3/2", "۳", "inf", "NaN", "nil",
	} {
		expectParsed(t, s, rational{}, false)
	}
}

func TestParseRationalLimits(t *testing.T) {
	expectParsed(t, "2147483647/2", over(largest, 2), true)
	expectParsed(t, "-2147483647/2147483646", over(-largest, largest-1), true)
	expectParsed(t, "2147483646/2147483647", over(largest-1, largest), true)
	for _, s := range []string{
		"2147483648", "-2147483648", "2147483648/3", "1/2147483648", "-1/2147483649", "2147483648/2147483649",
		"4294967296", "4294967297", "1/4294967297", "9999999999", "1/9999999999",
		"9223372036854775807", "-9223372036854775808", "-9223372036854775807/2", "1/9223372036854775807", "1/-9223372036854775808",
		"9223372036854775808", "-9223372036854775809", "18446744073709551617", "18446744073709551617/2", "1/18446744073709551618",
		strings.Repeat("9", 1000), "-" + strings.Repeat("9", 1000), "1/" + strings.Repeat("9", 1000), strings.Repeat("0", 1000) + "1",
	} {
		expectParsed(t, s, rational{}, false)
	}
}

// Every short string is accepted exactly if some rational is formatted so.
func TestParseRationalAcceptsNothingElse(t *testing.T) {
	formats := map[string]rational{}
	for num := -9999; num <= 99999; num++ {
		formats[strconv.Itoa(num)] = over(num, 1)
	}
	for num := -999; num <= 999; num++ {
		for den := 2; den <= 999; den++ {
			if r := over(num, den); isValidReference(r) {
				formats[strconv.Itoa(num)+"/"+strconv.Itoa(den)] = r
			}
		}
	}
	alphabets := []struct {
		alphabet  string
		maxLength int
	}{{allBytes(), 2}, {"/-+ 01246", 5}}
	for _, a := range alphabets {
		for _, s := range stringsOver(a.alphabet, a.maxLength) {
			want, wantOK := formats[s]
			expectParsed(t, s, want, wantOK)
		}
	}
}

// resultsOfAll calls every function of the chapter and returns all results.
func resultsOfAll(a *rational, b *rational, s string) string {
	var results strings.Builder
	write := func(r rational, ok bool) {
		fmt.Fprintln(&results, r, ok)
	}
	write(impl.MakeRational(a.Num, b.Den))
	write(impl.AddRationals(*a, *b))
	write(impl.SubtractRationals(*a, *b))
	write(impl.MultiplyRationals(*a, *b))
	write(impl.DivideRationals(*a, *b))
	write(impl.ParseRational(s))
	write(over(impl.CompareRationals(*a, *b), impl.CeilRational(*a)), impl.IsValidRational(*a))
	results.WriteString(impl.FormatRational(*a))
	return results.String()
}

func TestRationalsLeaveArgumentsAlone(t *testing.T) {
	pairs := [][2]rational{
		{over(1, 2), over(-1, 3)},
		{over(2, 4), over(1, 0)},
		{over(largest, 1), over(1, -largest)},
		{over(0, 0), over(math.MinInt, math.MinInt)},
	}
	for _, text := range []string{"3/2", "-7", "2/4", "x", ""} {
		for _, pair := range pairs {
			a, b := pair[0], pair[1]
			// A string over bytes that the test can change afterwards.
			memory := []byte(text)
			s := unsafe.String(unsafe.SliceData(memory), len(memory))
			before := resultsOfAll(&a, &b, s)
			if a != pair[0] || b != pair[1] || string(memory) != text {
				t.Errorf("an argument was changed: %v, %v, %q became %v, %v, %q", pair[0], pair[1], text, a, b, memory)
			}
			a, b = over(5, 7), over(11, 13)
			for i := range memory {
				memory[i] = '9'
			}
			resultsOfAll(&a, &b, s)
			if again := resultsOfAll(&pair[0], &pair[1], text); again != before {
				t.Errorf("%v, %v, %q: results\n%s\nbecame\n%s", pair[0], pair[1], text, before, again)
			}
		}
	}
}

func TestFormattedRationalSharesNoMemory(t *testing.T) {
	memory := []byte("-3/2")
	r, _ := impl.ParseRational(unsafe.String(unsafe.SliceData(memory), len(memory)))
	s := impl.FormatRational(r)
	copy(memory, "9999")
	if want := over(-3, 2); r != want || s != "-3/2" || impl.FormatRational(r) != "-3/2" {
		t.Errorf("the change of an argument changed a result: %v, %q", r, s)
	}
}
