package big

import (
	"fmt"
	"math"
	mathbig "math/big"
	"math/rand/v2"
	"slices"
	"strings"
	"testing"

	"pennant/api"
)

// The numbers of DOC.md, written out so that nothing here leans on the package.
const (
	minFix = -536870912
	maxFix = 536870911
)

// value is the number that a denotes, tidy or not, by the library's own integers.
func value(a Int) *mathbig.Int {
	n := new(mathbig.Int)
	for i := len(a.Digits) - 1; i >= 0; i-- {
		n.Lsh(n, 16)
		n.Or(n, mathbig.NewInt(int64(a.Digits[i])))
	}
	if a.Neg {
		n.Neg(n)
	}
	return n
}

// number is n as an Int, tidy.
func number(n *mathbig.Int) Int {
	a := Int{Neg: n.Sign() < 0}
	rest := new(mathbig.Int).Abs(n)
	for ; rest.Sign() > 0; rest.Rsh(rest, 16) {
		a.Digits = append(a.Digits, uint16(new(mathbig.Int).And(rest, mathbig.NewInt(0xffff)).Uint64()))
	}
	return a
}

// read is the number of a text, read by the library.
func read(s string) *mathbig.Int {
	n, ok := new(mathbig.Int).SetString(s, 0)
	if !ok {
		panic(s)
	}
	return n
}

// forms is the same number in several forms, the first of which is tidy.
func forms(n *mathbig.Int) []Int {
	a := number(n)
	l := []Int{a, {a.Neg, append(slices.Clone(a.Digits), 0)}, {a.Neg, append(slices.Clone(a.Digits), make([]uint16, 9)...)}}
	if n.Sign() == 0 {
		l = append(l, Int{false, []uint16{}}, Int{true, nil}, Int{true, []uint16{}}, Int{true, []uint16{0}}, Int{true, make([]uint16, 9)})
	}
	return l
}

// isNumber wants this number, tidy.
func isNumber(t *testing.T, got Int, want *mathbig.Int, call string, args ...any) {
	t.Helper()
	if w := number(want); got.Neg != w.Neg || !slices.Equal(got.Digits, w.Digits) {
		t.Errorf("%.300s = %v, not %v", fmt.Sprintf(call, args...), shown(got), shown(w))
	}
}

func shown(a Int) string { return fmt.Sprintf("%.300s", fmt.Sprint(a)) }

// The chapter's examples

func TestExamples(t *testing.T) {
	parse := func(s string) Int {
		a, e := Parse(s)
		if e != api.OK {
			t.Errorf("Parse(%q): %d", s, e)
		}
		return a
	}
	if a := parse("-00065537"); !a.Neg || !slices.Equal(a.Digits, []uint16{1, 1}) || Text(a) != "-65537" {
		t.Errorf("-65537: %v", a)
	}
	for _, s := range []string{"", "-", "1a"} {
		if a, e := Parse(s); e != 4 || a.Neg || len(a.Digits) != 0 {
			t.Errorf("Parse(%q) = %v, %d", s, a, e)
		}
	}
	if s := Text(parse("-0")); s != "0" {
		t.Errorf("-0: %s", s)
	}
	if a := Mul(Of(65535), Of(65537)); Text(a) != "4294967295" {
		t.Errorf("Mul: %v", a)
	}
	if a := Sub(Of(1), Of(2)); Text(a) != "-1" {
		t.Errorf("Sub: %v", a)
	}
	if a := Add(Of(-5), Of(5)); a.Neg || len(a.Digits) != 0 {
		t.Errorf("Add: %v", a)
	}
	for _, x := range []struct{ a, b, q, r int64 }{{-7, 2, -3, -1}, {7, -2, -3, 1}} {
		if q, r, e := Quo(Of(x.a), Of(x.b)); e != 0 || Cmp(q, Of(x.q)) != 0 || Cmp(r, Of(x.r)) != 0 {
			t.Errorf("Quo(%d, %d) = %v, %v, %d", x.a, x.b, q, r, e)
		}
	}
	if q, r, e := Quo(Of(1), Of(0)); e != 15 || q.Neg || r.Neg || len(q.Digits)+len(r.Digits) != 0 {
		t.Errorf("Quo(1, 0) = %v, %v, %d", q, r, e)
	}
	for n, want := range map[int64]bool{536870911: true, 536870912: false, -536870912: true} {
		if _, fits := Fix(Of(n)); fits != want {
			t.Errorf("Fix(%d): %v", n, fits)
		}
	}
}

// P5.1

func TestOf(t *testing.T) {
	for _, x := range []struct {
		n      int64
		digits []uint16
	}{
		{0, nil}, {1, []uint16{1}}, {9, []uint16{9}}, {32768, []uint16{32768}}, {65535, []uint16{65535}}, {65536, []uint16{0, 1}}, {65537, []uint16{1, 1}},
		{maxFix, []uint16{65535, 8191}}, {maxFix + 1, []uint16{0, 8192}}, {1<<32 - 1, []uint16{65535, 65535}}, {1 << 32, []uint16{0, 0, 1}},
		{1<<48 - 1, []uint16{65535, 65535, 65535}}, {1 << 48, []uint16{0, 0, 0, 1}}, {5<<48 | 7, []uint16{7, 0, 0, 5}},
		{math.MaxInt64 - 1, []uint16{65534, 65535, 65535, 32767}}, {math.MaxInt64, []uint16{65535, 65535, 65535, 32767}},
	} {
		if a := Of(x.n); a.Neg || !slices.Equal(a.Digits, x.digits) {
			t.Errorf("Of(%d) = %v", x.n, a)
		}
		if a := Of(-x.n); a.Neg != (x.n > 0) || !slices.Equal(a.Digits, x.digits) {
			t.Errorf("Of(%d) = %v", -x.n, a)
		}
	}
	if a := Of(math.MinInt64); !a.Neg || !slices.Equal(a.Digits, []uint16{0, 0, 0, 32768}) {
		t.Errorf("Of(-2^63) = %v", a)
	}
}

func TestTidy(t *testing.T) {
	for _, x := range []struct{ a, want Int }{
		{Int{}, Int{}}, {Int{false, []uint16{}}, Int{}}, {Int{false, []uint16{0}}, Int{}}, {Int{false, []uint16{0, 0, 0}}, Int{}},
		{Int{true, nil}, Int{}}, {Int{true, []uint16{}}, Int{}}, {Int{true, []uint16{0}}, Int{}}, {Int{true, []uint16{0, 0, 0}}, Int{}},
		{Int{false, []uint16{1}}, Int{false, []uint16{1}}}, {Int{true, []uint16{1}}, Int{true, []uint16{1}}},
		{Int{false, []uint16{1, 0}}, Int{false, []uint16{1}}}, {Int{true, []uint16{1, 0, 0, 0, 0}}, Int{true, []uint16{1}}},
		{Int{false, []uint16{0, 1}}, Int{false, []uint16{0, 1}}}, {Int{true, []uint16{0, 0, 5, 0, 6, 0}}, Int{true, []uint16{0, 0, 5, 0, 6}}},
		{Int{true, append(make([]uint16, 1000), 65535)}, Int{true, append(make([]uint16, 1000), 65535)}},
		{Int{true, make([]uint16, 100000)}, Int{}},
	} {
		if a := Tidy(x.a); a.Neg != x.want.Neg || !slices.Equal(a.Digits, x.want.Digits) {
			t.Errorf("Tidy(%s) = %s", shown(x.a), shown(a))
		}
	}
}

func TestSmall(t *testing.T) {
	for _, x := range []struct {
		n     string
		small bool
	}{
		{"0", true}, {"1", true}, {"-1", true}, {"65535", true}, {"-65536", true}, {"0x123456789abcdef", true}, {"-0x123456789abcdef", true},
		{"9223372036854775806", true}, {"9223372036854775807", true}, {"9223372036854775808", false}, {"9223372036854775809", false},
		{"-9223372036854775807", true}, {"-9223372036854775808", true}, {"-9223372036854775809", false}, {"-9223372036854775810", false},
		{"18446744073709551615", false}, {"-18446744073709551615", false}, {"18446744073709551616", false}, {"-18446744073709551616", false}, {"18446744073709551617", false},
		{"0x10000000000000000000000000000000000000005", false}, {"-0x10000000000000000000000000000000000000005", false},
	} {
		n := read(x.n)
		want := int64(0)
		if x.small {
			want = n.Int64()
		}
		for _, a := range forms(n) {
			if got, small := Small(a); got != want || small != x.small {
				t.Errorf("Small(%v) = %d, %v", a, got, small)
			}
		}
		if x.small {
			isNumber(t, Of(n.Int64()), n, "Of(%v)", n)
		}
	}
}

func TestFix(t *testing.T) {
	for _, x := range []struct {
		n   string
		fix bool
	}{
		{"0", true}, {"1", true}, {"-1", true}, {"65536", true}, {"-65536", true},
		{"536870910", true}, {"536870911", true}, {"536870912", false}, {"536870913", false},
		{"-536870911", true}, {"-536870912", true}, {"-536870913", false}, {"-536870914", false},
		{"0x7fffffff", false}, {"0x80000000", false}, {"-0x80000000", false}, {"0xffffffff", false}, {"0x100000000", false}, {"0x100000005", false}, {"-0x100000005", false},
		{"0x7fffffffffffffff", false}, {"-0x8000000000000000", false}, {"0x8000000000000000", false}, {"-0x8000000000000001", false}, {"0xffffffffffffffff", false},
		{"0x10000000000000000", false}, {"0x10000000000000007", false}, {"-0x10000000000000007", false},
	} {
		n := read(x.n)
		want := 0
		if x.fix {
			want = int(n.Int64())
		}
		for _, a := range forms(n) {
			if got, fix := Fix(a); got != want || fix != x.fix {
				t.Errorf("Fix(%v) = %d, %v", a, got, fix)
			}
		}
	}
	if api.MinFix != minFix || api.MaxFix != maxFix {
		t.Error("the fixnums are others")
	}
}

// P5.2

func TestParse(t *testing.T) {
	for s, want := range map[string]int64{
		"0": 0, "00": 0, "0000": 0, "00000": 0, "000000000000000000000000000": 0, "+0": 0, "-0": 0, "+000": 0, "-00000": 0,
		"1": 1, "+1": 1, "-1": -1, "9": 9, "10": 10, "123": 123, "9999": 9999, "10000": 10000, "10001": 10001, "99999999": 99999999, "100000000": 100000000,
		"65535": 65535, "65536": 65536, "-65536": -65536, "-65537": -65537, "0001": 1, "00012345": 12345, "-00000000000000000000000000000000000000012": -12, "+00000000700000000": 700000000,
		"1234567890123456789": 1234567890123456789, "-9876543210987654321"[:19]: -987654321098765432,
		"9223372036854775807": math.MaxInt64, "-9223372036854775808": math.MinInt64,
	} {
		a, e := Parse(s)
		if e != api.OK {
			t.Errorf("Parse(%q): %d", s, e)
		}
		isNumber(t, a, mathbig.NewInt(want), "Parse(%q)", s)
	}
}

func TestParseRefuses(t *testing.T) {
	wrong := []string{
		"", "+", "-", "++1", "--1", "+-1", "-+1", "--", "+-", "1-", "1+", "12-3", "1+2", "-1-", " ", " 1", "1 ", "- 1", "1 2", "\t1", "1\n", "1\x00", "\x00", "\x001",
		"a", "1a", "a1", "-a", "0x10", "0b1", "1e5", "1.", ".1", "1.0", "1_000", "1,000", "/", ":", "1/2", "/1", ":1", "1:", "-:", "#x1", "1#", "NaN", "inf",
		"\u0661", "1\u0661", "\uff11", "\u22121", "\xff", "1\xff", "\xb1", "1\xb2", "\xe2\x88", "'1", "1'",
		strings.Repeat("7", 5000) + "x", "x" + strings.Repeat("7", 5000), strings.Repeat("7", 5000) + "-" + strings.Repeat("7", 5000), strings.Repeat("-", 5000), "-" + strings.Repeat(" ", 5000),
	}
	for c := range 256 { // every byte that is no digit, at every place of a text
		if c < '0' || c > '9' {
			s := string([]byte{byte(c)})
			wrong = append(wrong, "12345"+s, "1234"+s, "123"+s+"45", "1"+s+"2345", "-"+s, "+"+s+"1")
		}
	}
	for _, s := range wrong {
		if a, e := Parse(s); e != api.ErrForm || a.Neg || len(a.Digits) != 0 {
			t.Errorf("Parse(%.60q) = %v, %d", s, shown(a), e)
		}
	}
}

func TestText(t *testing.T) {
	for _, s := range []string{
		"0", "1", "-1", "9", "10", "-10", "99", "100", "999", "1000", "1001", "9999", "10000", "-10000", "10001", "10010", "10100", "11000", "99999", "100000", "65535", "65536", "65537",
		"99999999", "100000000", "100000001", "100010000", "-100000000", "123456789", "10203040506070809", "4294967295", "4294967296", "9223372036854775808", "18446744073709551616",
		"340282366920938463463374607431768211456", "-340282366920938463463374607431768211455", "1000000000000000000000000000000000000000000000000", "-70000000000000000000000000000000000000001",
	} {
		for _, a := range forms(read(s)) {
			if got := Text(a); got != s {
				t.Errorf("Text(%v) = %s, not %s", a, got, s)
			}
		}
	}
}

// Lengths around those at which groups of digits, and neighbours of them, are full.
func TestTextsOfAllLengths(t *testing.T) {
	for n := range 400 {
		for _, s := range []string{"1" + strings.Repeat("0", n), strings.Repeat("9", n+1), strings.Repeat("1234567890", n/10+1)[:n+1], "5" + strings.Repeat("0", n) + "5"} {
			textAndBack(t, s)
			textAndBack(t, "-"+s)
			a, e := Parse("+" + strings.Repeat("0", n%11) + s)
			if b, f := Parse(s); e != api.OK || f != api.OK || Cmp(a, b) != 0 {
				t.Errorf("+ and zeros ahead of %s", s)
			}
		}
		power := new(mathbig.Int).Lsh(mathbig.NewInt(1), uint(5*n))
		textAndBack(t, power.String())
		textAndBack(t, power.Sub(power, mathbig.NewInt(1)).String())
	}
}

// textAndBack wants that s is read as its number, and told again as s.
func textAndBack(t *testing.T, s string) {
	t.Helper()
	a, e := Parse(s)
	if e != api.OK {
		t.Errorf("Parse(%.60s): %d", s, e)
	}
	n, _ := new(mathbig.Int).SetString(s, 10)
	isNumber(t, a, n, "Parse(%.60s)", s)
	if got := Text(a); got != s {
		t.Errorf("Text of what was parsed from %.60s.. (%d chars) is %.60s.. (%d chars)", s, len(s), got, len(got))
	}
}

func TestLongTexts(t *testing.T) {
	for _, s := range []string{
		strings.Repeat("9", 200000), "-1" + strings.Repeat("0", 150000), strings.Repeat("31415926535897932384", 5000), "-" + strings.Repeat("65536", 7001),
	} {
		textAndBack(t, s)
	}
	a, e := Parse("-" + strings.Repeat("0", 300000) + "42")
	if e != api.OK || Text(a) != "-42" {
		t.Errorf("zeros ahead: %s, %d", shown(a), e)
	}
	a, e = Parse("-" + strings.Repeat("0", 300000))
	if e != api.OK || a.Neg || len(a.Digits) != 0 || Text(a) != "0" {
		t.Errorf("zeros: %s, %d", shown(a), e)
	}
}

// P5.3 and P5.4

// samples is numbers of many lengths and both signs, with digits that carry, borrow, and hide behind zeros.
func samples() []*mathbig.Int {
	texts := []string{
		"0", "1", "2", "3", "10", "0x7fff", "0x8000", "0x8001", "0xfffe", "0xffff", "0x10000", "0x10001", "0x1ffff", "0x20000", "536870911", "536870912", "0x7fffffff", "0x80000000",
		"0xfffeffff", "0xffff0000", "0xffffffff", "0x100000000", "0x100000001", "0xffff0000ffff", "0x1000000000000", "0x7fffffffffffffff", "0x8000000000000000", "0x8000000000000001",
		"0xffffffffffffffff", "0x10000000000000000", "0xffff0000000000000001", "0x1000000000000000000000001", "0x800000000000000000000000", "0x7fffffffffffffffffffffff", "0xffffffffffffffffffffffff",
		"0x1" + strings.Repeat("0", 160), "0x" + strings.Repeat("f", 160), "0x1" + strings.Repeat("0", 159) + "1", "0x8000" + strings.Repeat("ffff0000", 30),
		"0x1" + strings.Repeat("0", 800), "0x" + strings.Repeat("f", 800), "0x" + strings.Repeat("fedcba9876543210", 45) + "1",
	}
	var l []*mathbig.Int
	for _, s := range texts {
		n := read(s)
		l = append(l, n, new(mathbig.Int).Neg(n))
	}
	return l
}

// together holds every function of two numbers against the library's.
func together(t *testing.T, a, b Int) {
	t.Helper()
	x, y := value(a), value(b)
	as, bs := shown(a), shown(b)
	if c := Cmp(a, b); c != x.Cmp(y) {
		t.Errorf("Cmp(%s, %s) = %d", as, bs, c)
	}
	isNumber(t, Add(a, b), new(mathbig.Int).Add(x, y), "Add(%s, %s)", as, bs)
	isNumber(t, Sub(a, b), new(mathbig.Int).Sub(x, y), "Sub(%s, %s)", as, bs)
	isNumber(t, Mul(a, b), new(mathbig.Int).Mul(x, y), "Mul(%s, %s)", as, bs)
	divided(t, a, b)
}

// divided holds Quo against the library.
func divided(t *testing.T, a, b Int) {
	t.Helper()
	x, y := value(a), value(b)
	q, r, e := Quo(a, b)
	if y.Sign() == 0 {
		if e != api.ErrZero || q.Neg || r.Neg || len(q.Digits)+len(r.Digits) != 0 {
			t.Errorf("Quo(%s, %s) = %s, %s, %d", shown(a), shown(b), shown(q), shown(r), e)
		}
		return
	}
	wantQ, wantR := new(mathbig.Int).QuoRem(x, y, new(mathbig.Int))
	if e != api.OK {
		t.Errorf("Quo(%s, %s): %d", shown(a), shown(b), e)
	}
	isNumber(t, q, wantQ, "the quotient of %s and %s", shown(a), shown(b))
	isNumber(t, r, wantR, "the remainder of %s and %s", shown(a), shown(b))
}

func TestAllPairs(t *testing.T) {
	l := samples()
	for _, x := range l {
		for _, y := range l {
			together(t, number(x), number(y))
		}
	}
}

// Whatever form a number comes in, it is taken as that number.
func TestFormsThatAreNotTidy(t *testing.T) {
	l := samples()
	for i, x := range l {
		for _, y := range []*mathbig.Int{l[0], l[3], l[2], x, new(mathbig.Int).Neg(x), l[(i+7)%len(l)], l[(i+24)%len(l)]} {
			for _, a := range forms(x) {
				for _, b := range forms(y) {
					together(t, a, b)
				}
			}
		}
		for _, a := range forms(x) {
			isNumber(t, Tidy(a), x, "Tidy(%s)", shown(a))
			if s := Text(a); s != x.String() {
				t.Errorf("Text(%s) = %.100s", shown(a), s)
			}
		}
	}
}

func TestSigns(t *testing.T) {
	for a := int64(-40); a <= 40; a++ {
		for b := int64(-40); b <= 40; b++ {
			together(t, Of(a), Of(b))
			together(t, Of(a*65536), Of(b))
			together(t, Of(a), Of(b*65536))
			together(t, Of(a*65535+b), Of(b*65537+a))
		}
	}
}

// ones is 65536^n - 1: each digit carries as soon as 1 is added.
func ones(n int) Int { return Int{Digits: slices.Repeat([]uint16{65535}, n)} }

// power is 65536^n: each digit borrows as soon as 1 is taken.
func power(n int) Int { return Int{Digits: append(make([]uint16, n), 1)} }

func same(a, b Int) bool { return a.Neg == b.Neg && slices.Equal(a.Digits, b.Digits) }

func TestCarriesAndBorrows(t *testing.T) {
	one := Int{Digits: []uint16{1}}
	for n := 1; n < 3000; n += 1 + n/7 {
		for _, c := range []struct {
			what      string
			got, want Int
		}{
			{"65536^n - 1, and 1", Add(ones(n), one), power(n)},
			{"1, and 65536^n - 1", Add(one, ones(n)), power(n)},
			{"65536^n less 1", Sub(power(n), one), ones(n)},
			{"1 less 65536^n", Sub(one, power(n)), Int{true, ones(n).Digits}},
			{"-65536^n, and 1", Add(Int{true, power(n).Digits}, one), Int{true, ones(n).Digits}},
			{"65536^n less 65536^n - 1", Sub(power(n), ones(n)), one},
			{"65536^n - 1 twice", Add(ones(n), ones(n)), Int{Digits: append([]uint16{65534}, append(slices.Repeat([]uint16{65535}, n-1), 1)...)}},
			{"65536^n - 1 squared", Mul(ones(n), ones(n)), Int{Digits: append(append([]uint16{1}, make([]uint16, n-1)...), append([]uint16{65534}, slices.Repeat([]uint16{65535}, n-1)...)...)}},
			{"65536^n - 1 times 65535", Mul(ones(n), ones(1)), Sub(Sub(power(n+1), power(n)), ones(1))},
		} {
			if !same(c.got, c.want) {
				t.Errorf("n = %d: %s is %s", n, c.what, shown(c.got))
			}
		}
		if Cmp(ones(n), power(n)) != -1 || Cmp(power(n), ones(n)) != 1 || Cmp(power(n), power(n)) != 0 || Cmp(power(n), Int{true, power(n + 1).Digits}) != 1 {
			t.Errorf("n = %d: Cmp", n)
		}
		q, r, e := Quo(power(n), ones(n))
		if e != api.OK || !same(q, one) || !same(r, one) {
			t.Errorf("n = %d: 65536^n over 65536^n - 1 is %s, %s", n, shown(q), shown(r))
		}
	}
}

// Numbers that differ in a single digit, at the top, in the middle, or at the bottom.
func TestCmpFindsTheDigit(t *testing.T) {
	for at := range 12 {
		a := Int{Digits: slices.Repeat([]uint16{500}, 12)}
		b := Int{Digits: slices.Clone(a.Digits)}
		b.Digits[at]++
		for below := range at { // what stands below it does not matter
			b.Digits[below] = uint16(below)
		}
		if Cmp(a, b) != -1 || Cmp(b, a) != 1 || Cmp(Int{true, a.Digits}, Int{true, b.Digits}) != 1 || Cmp(Int{true, b.Digits}, Int{true, a.Digits}) != -1 || Cmp(Int{true, b.Digits}, a) != -1 || Cmp(a, Int{true, b.Digits}) != 1 {
			t.Errorf("the digit %d", at)
		}
	}
}

// Every choice of the digits that make a quotient's digit hard to guess, over divisors of one digit, two and three.
func TestQuotientsThatAreCorrected(t *testing.T) {
	digits := []uint16{0, 1, 0x7fff, 0x8000, 0xfffe, 0xffff}
	lists := func(n int) [][]uint16 {
		l := [][]uint16{nil}
		for range n {
			var more [][]uint16
			for _, x := range l {
				for _, d := range digits {
					more = append(more, append(slices.Clone(x), d))
				}
			}
			l = more
		}
		return l
	}
	divisors := slices.Concat(lists(1), lists(2), lists(3))
	for _, a := range lists(4) {
		for _, b := range divisors {
			divided(t, Int{Digits: a}, Int{Digits: b})
		}
	}
	if t.Failed() {
		return
	}
	for _, low := range digits {
		for _, a := range lists(4) {
			divided(t, Int{Neg: true, Digits: append([]uint16{low, 7}, a...)}, Int{Digits: []uint16{low, a[1], a[2], a[3]}})
			divided(t, Int{Digits: append(slices.Clone(a), a[3])}, Int{Neg: true, Digits: []uint16{a[0], low, a[3]}})
		}
	}
}

// By hand: the first two digits of the divisor seem to go once more than the whole of it does.
func TestCorrectionsByHand(t *testing.T) {
	for _, x := range []struct{ a, b, q, r []uint16 }{
		{[]uint16{0, 0, 0, 0x8000}, []uint16{1, 0, 0x8000}, []uint16{65535}, []uint16{1, 65535, 0x7fff}},
		{[]uint16{0, 0, 0, 1}, []uint16{1, 0, 1}, []uint16{65535}, []uint16{1, 65535}},
		{[]uint16{0, 0, 0, 0, 0, 1}, []uint16{1, 0, 0, 0, 1}, []uint16{65535}, []uint16{1, 65535, 65535, 65535}},
		{[]uint16{0, 0, 5}, []uint16{1, 0, 5}, nil, []uint16{0, 0, 5}},
		{[]uint16{0, 0, 10}, []uint16{1, 0, 5}, []uint16{1}, []uint16{65535, 65535, 4}},
	} {
		q, r, e := Quo(Int{Digits: x.a}, Int{Digits: x.b})
		if e != api.OK || !slices.Equal(q.Digits, x.q) || !slices.Equal(r.Digits, x.r) {
			t.Errorf("Quo(%v, %v) = %v, %v, %d", x.a, x.b, q, r, e)
		}
	}
}

// random is a number with so many digits at most, many of which are 0 or 65535.
func random(r *rand.Rand, n int) Int {
	a := Int{Neg: r.IntN(2) == 0, Digits: make([]uint16, r.IntN(n+1))}
	for i := range a.Digits {
		switch r.IntN(4) {
		case 0:
			a.Digits[i] = 65535
		case 1:
			a.Digits[i] = uint16(r.Uint32())
		case 2:
			a.Digits[i] = uint16(r.IntN(3)) << r.IntN(16)
		}
	}
	return a
}

func TestUnlikeLengths(t *testing.T) {
	r := rand.New(rand.NewPCG(1, 2))
	for range 3000 {
		together(t, random(r, 1+r.IntN(250)), random(r, 1+r.IntN(250)))
		together(t, random(r, 12), random(r, 6))
		together(t, random(r, 300), random(r, 3))
		together(t, random(r, 3), random(r, 300))
	}
	for range 20 {
		together(t, random(r, 6000), random(r, 6000))
		together(t, random(r, 6000), random(r, 100))
	}
}

// Long numbers whose digits are all as great as can be: sums of many products.
func TestGreatDigits(t *testing.T) {
	for _, x := range []struct{ m, n int }{{39, 39}, {40, 40}, {41, 40}, {79, 40}, {80, 40}, {81, 40}, {81, 41}, {127, 128}, {1000, 999}, {4096, 4096}, {5000, 41}, {40, 5000}, {20000, 20000}} {
		together(t, ones(x.m), ones(x.n))
		together(t, Int{true, ones(x.m).Digits}, power(x.n))
	}
}

// P5.5

func TestRing(t *testing.T) {
	r := rand.New(rand.NewPCG(3, 4))
	for i := range 3000 {
		n := 1 + i%150
		a, b, c := random(r, n), random(r, n), random(r, n)
		for _, p := range []struct {
			law  string
			l, r Int
		}{
			{"a + b is b + a", Add(a, b), Add(b, a)},
			{"a b is b a", Mul(a, b), Mul(b, a)},
			{"(a + b) + c is a + (b + c)", Add(Add(a, b), c), Add(a, Add(b, c))},
			{"(a b) c is a (b c)", Mul(Mul(a, b), c), Mul(a, Mul(b, c))},
			{"a (b + c) is a b + a c", Mul(a, Add(b, c)), Add(Mul(a, b), Mul(a, c))},
			{"(a + b) - b is a", Sub(Add(a, b), b), Tidy(a)},
			{"(a - b) + b is a", Add(Sub(a, b), b), Tidy(a)},
			{"a - a is 0", Sub(a, a), Int{}},
			{"a + 0 is a", Add(a, Int{Neg: true}), Tidy(a)},
			{"a 1 is a", Mul(a, Of(1)), Tidy(a)},
			{"a 0 is 0", Mul(Int{Neg: true, Digits: make([]uint16, 2)}, a), Int{}},
			{"a -1 is 0 - a", Mul(a, Of(-1)), Sub(Int{}, a)},
		} {
			if !same(p.l, p.r) {
				t.Fatalf("%s does not hold of %v, %v, %v: %v, %v", p.law, a, b, c, p.l, p.r)
			}
		}
		if Cmp(a, b) != -Cmp(b, a) || Cmp(Sub(a, b), Int{}) != Cmp(a, b) || Cmp(a, a) != 0 {
			t.Fatalf("Cmp of %v, %v", a, b)
		}
	}
}

// P5.6

func TestDivision(t *testing.T) {
	r := rand.New(rand.NewPCG(5, 6))
	for i := range 4000 {
		a, b := random(r, 2+i%120), random(r, 1+i%70)
		if i%10 == 0 { // one that goes into it without a remainder
			a = Mul(a, b)
		}
		q, rest, e := Quo(a, b)
		if len(Tidy(b).Digits) == 0 {
			if e != api.ErrZero {
				t.Fatalf("Quo(%v, %v): %d", a, b, e)
			}
			continue
		}
		if e != api.OK || !same(Add(Mul(q, b), rest), Tidy(a)) {
			t.Fatalf("Quo(%v, %v) = %v, %v, %d", a, b, q, rest, e)
		}
		if Cmp(Int{Digits: rest.Digits}, Int{Digits: b.Digits}) >= 0 || len(rest.Digits) != 0 && rest.Neg != a.Neg {
			t.Fatalf("Quo(%v, %v) leaves %v", a, b, rest)
		}
		if i%10 == 0 && len(rest.Digits) != 0 {
			t.Fatalf("Quo(%v, %v) leaves %v, although it has no remainder", a, b, rest)
		}
	}
}

// P5.7

func TestTextsAndBack(t *testing.T) {
	r := rand.New(rand.NewPCG(7, 8))
	for i := range 3000 {
		a := random(r, 1+i%200)
		s := Text(a)
		if want := value(a).String(); s != want {
			t.Fatalf("Text(%v) = %s, not %s", a, s, want)
		}
		if b, e := Parse(s); e != api.OK || !same(b, Tidy(a)) {
			t.Fatalf("Parse(%s) = %v, %d, not %v", s, b, e, a)
		}
		text := []byte{byte('1' + r.IntN(9))}
		for range r.IntN(1 + i%300) {
			text = append(text, byte('0'+r.IntN(10)))
		}
		textAndBack(t, string(text))
		textAndBack(t, "-"+string(text))
	}
}

// P5.8

// call is one or more calls of a function, and what they answer, as numbers.
type call struct {
	name string
	do   func(a, b Int) []Int
}

func calls() []call {
	return []call{
		{"Tidy", func(a, b Int) []Int { return []Int{Tidy(a), Tidy(b)} }},
		{"Add", func(a, b Int) []Int { return []Int{Add(a, b), Add(b, a)} }},
		{"Sub", func(a, b Int) []Int { return []Int{Sub(a, b), Sub(b, a)} }},
		{"Mul", func(a, b Int) []Int { return []Int{Mul(a, b), Mul(b, a)} }},
		{"Quo", func(a, b Int) []Int {
			q, r, _ := Quo(a, b)
			p, s, _ := Quo(b, a)
			return []Int{q, r, p, s}
		}},
		{"Cmp", func(a, b Int) []Int { return []Int{Of(int64(Cmp(a, b)))} }},
		{"the others", func(a, b Int) []Int {
			n, small := Small(a)
			m, fix := Fix(b)
			if !small && n != 0 || !fix && m != 0 {
				return nil
			}
			c, _ := Parse(Text(a))
			return []Int{Of(n), Of(int64(m)), c}
		}},
	}
}

// roomy is a with digits that have room behind their end, and the whole of that memory.
func roomy(a Int) (Int, []uint16) {
	all := append(slices.Clone(a.Digits), 11, 22, 33, 44)
	return Int{a.Neg, all[:len(a.Digits)]}, all
}

func copies(l []Int) []Int {
	var c []Int
	for _, a := range l {
		c = append(c, Int{a.Neg, slices.Clone(a.Digits)})
	}
	return c
}

// spoil overwrites all memory that a slice reaches.
func spoil(digits []uint16) {
	for i := range digits[:cap(digits)] {
		digits[:cap(digits)][i] = 0xdead
	}
}

func TestArgumentsAndResults(t *testing.T) {
	r := rand.New(rand.NewPCG(9, 10))
	var l []Int
	for _, x := range []string{"0", "1", "-1", "65536", "-0x100000000000000000000", "0xffffffffffff"} {
		l = append(l, forms(read(x))...)
	}
	for i := range 12 {
		l = append(l, random(r, 1+10*i))
	}
	for _, c := range calls() {
		for i := range l {
			for j := range l {
				a, allA := roomy(l[i])
				b, allB := roomy(l[j])
				beforeA, beforeB := slices.Clone(allA), slices.Clone(allB)
				if i == j {
					b, allB, beforeB = a, allA, beforeA
				}
				got := c.do(a, b)
				if !slices.Equal(allA, beforeA) || !slices.Equal(allB, beforeB) {
					t.Fatalf("%s(%v, %v) changes its arguments", c.name, l[i], l[j])
				}
				want := copies(got)
				spoil(allA)
				spoil(allB)
				if !slices.EqualFunc(got, want, same) {
					t.Fatalf("%s(%v, %v) hangs on its arguments", c.name, l[i], l[j])
				}
				again := c.do(Int{l[i].Neg, slices.Clone(l[i].Digits)}, Int{l[j].Neg, slices.Clone(l[j].Digits)})
				if !slices.EqualFunc(again, want, same) {
					t.Fatalf("%s(%v, %v) is another one the second time", c.name, l[i], l[j])
				}
				for k := range got { // no two results share memory
					spoil(got[k].Digits)
					if !slices.EqualFunc(got[k+1:], want[k+1:], same) || !slices.EqualFunc(again, want, same) {
						t.Fatalf("%s(%v, %v): results share memory", c.name, l[i], l[j])
					}
				}
			}
		}
	}
}

// The memory that a call leaves behind is not used again by later ones.
func TestResultsStay(t *testing.T) {
	a, _ := Parse("123456789012345678901234567890")
	b, _ := Parse("-123456789012345678901234567890")
	l := []Int{a, b, Of(77777), Add(a, a), Mul(a, b), Sub(a, b), Tidy(b)}
	q, r, _ := Quo(Mul(a, a), Of(-77777))
	l = append(l, q, r)
	before := copies(l)
	for n := range int64(2000) {
		x, _ := Parse(Text(Mul(Of(n), Of(n-1000))))
		Quo(Mul(x, x), Add(x, Sub(Of(1), x)))
		Tidy(x)
	}
	if !slices.EqualFunc(l, before, same) {
		t.Errorf("%v, not %v", l, before)
	}
}

// Whatever they are given, all calls end.
func TestNoPanic(t *testing.T) {
	r := rand.New(rand.NewPCG(11, 12))
	chars := []byte("0123456789+- a\x00\xff")
	for range 20000 {
		a, b := random(r, 9), random(r, 5)
		for _, c := range calls() {
			if c.do(a, b) == nil {
				t.Fatalf("%s(%v, %v): a number beside false", c.name, a, b)
			}
		}
		s := make([]byte, r.IntN(7))
		for i := range s {
			s[i] = chars[r.IntN(len(chars))]
		}
		x, e := Parse(string(s))
		n, ok := new(mathbig.Int).SetString(string(s), 10)
		if ok != (e == api.OK) || !ok && e != api.ErrForm {
			t.Fatalf("Parse(%q): %d", s, e)
		}
		if ok {
			isNumber(t, x, n, "Parse(%q)", s)
		}
	}
}
