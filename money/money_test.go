package money

import (
	"math"
	"math/big"
	"math/rand"
	"slices"
	"strings"
	"testing"
)

const (
	least = math.MinInt64
	most  = math.MaxInt64
)

// amounts: the edges of 64 bits, of cents and of whole hundreds, and others of all lengths, the same ones each time.
func amounts() []int64 {
	l := []int64{least, least + 1, most, most - 1, 1 << 62, -1 << 62}
	for _, n := range []int64{0, 1, 5, 9, 10, 11, 42, 99, 100, 101, 105, 110, 199, 200, 999, 1000, 9999, 10000, 12345, 100000000} {
		l = append(l, n, -n)
	}
	r := rand.New(rand.NewSource(2))
	for i := range 64 {
		l = append(l, int64(r.Uint64()>>i), -int64(r.Uint64()>>i))
	}
	slices.Sort(l)
	return slices.Compact(l)
}

// fits: what a call answers whose true result is n.
func fits(n *big.Int) (int64, bool) {
	if !n.IsInt64() {
		return 0, false
	}
	return n.Int64(), true
}

func TestP2_1Add(t *testing.T) {
	for _, x := range []struct {
		a, b, want int64
		ok         bool
	}{
		{0, 0, 0, true},
		{2, 3, 5, true},
		{2, -3, -1, true},
		{-2, 3, 1, true},
		{most, 0, most, true},
		{most - 1, 1, most, true},
		{least + 1, -1, least, true},
		{most, least, -1, true},
		{most, 1, 0, false},
		{1, most, 0, false},
		{most, most, 0, false},
		{least, -1, 0, false},
		{-1, least, 0, false},
		{least, least, 0, false},
	} {
		if got, ok := Add(x.a, x.b); got != x.want || ok != x.ok {
			t.Errorf("Add(%d, %d): %d, %t, not %d, %t", x.a, x.b, got, ok, x.want, x.ok)
		}
	}
	for _, a := range amounts() {
		for _, b := range amounts() {
			want, wantOk := fits(new(big.Int).Add(big.NewInt(a), big.NewInt(b)))
			if got, ok := Add(a, b); got != want || ok != wantOk {
				t.Fatalf("Add(%d, %d): %d, %t, not %d, %t", a, b, got, ok, want, wantOk)
			}
		}
	}
}

func TestP2_1Neg(t *testing.T) {
	if got, ok := Neg(least); got != 0 || ok {
		t.Errorf("Neg(-2^63): %d, %t, not 0, false", got, ok)
	}
	for _, n := range amounts() {
		want, wantOk := fits(new(big.Int).Neg(big.NewInt(n)))
		if got, ok := Neg(n); got != want || ok != wantOk {
			t.Errorf("Neg(%d): %d, %t, not %d, %t", n, got, ok, want, wantOk)
		}
	}
}

func TestP2_1Sum(t *testing.T) {
	for _, x := range []struct {
		l    []int64
		want int64
		ok   bool
	}{
		{nil, 0, true},
		{[]int64{}, 0, true},
		{[]int64{7}, 7, true},
		{[]int64{most}, most, true},
		{[]int64{least}, least, true},
		{[]int64{1, 2, 3, -10}, -4, true},
		{[]int64{most, 1}, 0, false},
		{[]int64{least, -1}, 0, false},
		// Parts are beyond, on either side, and the sum isn't.
		{[]int64{most, 1, -1}, most, true},
		{[]int64{1, most, -1}, most, true},
		{[]int64{most, most, least, least}, -2, true},
		{[]int64{least, least, most, most}, -2, true},
		{[]int64{least, -1, 1}, least, true},
		{[]int64{least, least, most, most, most}, most - 2, true},
		// What goes round in 64 bits comes to a number again, which is none.
		{[]int64{most, most, 2}, 0, false},
		{[]int64{least, least}, 0, false},
		{[]int64{least, least, least, least}, 0, false},
		{[]int64{most, most, most, most, 4}, 0, false},
	} {
		if got, ok := Sum(x.l...); got != x.want || ok != x.ok {
			t.Errorf("Sum(%v): %d, %t, not %d, %t", x.l, got, ok, x.want, x.ok)
		}
	}
	if got, ok := Sum(); got != 0 || !ok {
		t.Errorf("Sum(): %d, %t, not 0, true", got, ok)
	}
}

// The parts of a long Sum need more than 65 bits.
func TestP2_1SumOfMany(t *testing.T) {
	const half = 100000
	l := slices.Repeat([]int64{most}, half)
	if got, ok := Sum(l...); got != 0 || ok {
		t.Errorf("Sum of many: %d, %t, not 0, false", got, ok)
	}
	l = append(l, slices.Repeat([]int64{least}, half)...)
	if got, ok := Sum(l...); got != -half || !ok {
		t.Errorf("Sum of many, and back: %d, %t, not %d, true", got, ok, -half)
	}
}

func TestP2_1SumInAnyOrder(t *testing.T) {
	r := rand.New(rand.NewSource(3))
	all := amounts()
	for range 2000 {
		l := make([]int64, r.Intn(9))
		for i := range l {
			l[i] = all[r.Intn(len(all))]
		}
		sum := new(big.Int)
		for _, n := range l {
			sum.Add(sum, big.NewInt(n))
		}
		want, wantOk := fits(sum)
		if got, ok := Sum(l...); got != want || ok != wantOk {
			t.Fatalf("Sum(%v): %d, %t, not %d, %t", l, got, ok, want, wantOk)
		}
		slices.Sort(l)
		if got, ok := Sum(l...); got != want || ok != wantOk {
			t.Fatalf("Sum(%v), ordered: %d, %t, not %d, %t", l, got, ok, want, wantOk)
		}
	}
}

// R5: what is handed in stays, spare room included.
func TestP2_1SumLeavesItsList(t *testing.T) {
	room := []int64{1, most, 3, 4, 5}
	Sum(room[:3]...)
	if !slices.Equal(room, []int64{1, most, 3, 4, 5}) {
		t.Errorf("Sum made %v of its list", room)
	}
}

func TestP2_2Text(t *testing.T) {
	for _, x := range []struct {
		n    int64
		want string
	}{
		{0, "0.00"},
		{1, "0.01"},
		{5, "0.05"},
		{-5, "-0.05"},
		{9, "0.09"},
		{10, "0.10"},
		{99, "0.99"},
		{-99, "-0.99"},
		{100, "1.00"},
		{-100, "-1.00"},
		{105, "1.05"},
		{1000, "10.00"},
		{100010, "1000.10"},
		{-1234567, "-12345.67"},
		{most, "92233720368547758.07"},
		{least, "-92233720368547758.08"},
		{least + 1, "-92233720368547758.07"},
	} {
		if got := Text(x.n); got != x.want {
			t.Errorf("Text(%d): %q, not %q", x.n, got, x.want)
		}
	}
}

// bigText: made from the digits of a number that knows no edge.
func bigText(n int64) string {
	size := new(big.Int).Abs(big.NewInt(n))
	digits := size.String()
	digits = strings.Repeat("0", max(0, 3-len(digits))) + digits
	text := digits[:len(digits)-2] + "." + digits[len(digits)-2:]
	if n < 0 {
		return "-" + text
	}
	return text
}

func TestP2_2TextAndParse(t *testing.T) {
	for _, n := range amounts() {
		s := bigText(n)
		if got := Text(n); got != s {
			t.Errorf("Text(%d): %q, not %q", n, got, s)
		}
		if got, ok := Parse(s); got != n || !ok {
			t.Errorf("Parse(%q): %d, %t, not %d, true", s, got, ok, n)
		}
	}
}

func TestP2_2ParseWrong(t *testing.T) {
	long := strings.Repeat("9", 100000)
	for _, s := range []string{
		"", "-", ".", "-.", "0", "-0", "5", "100", "..", "--",
		// Digits are missing, or too many, on one side of the point.
		".00", "-.05", "0.", "1.", "0.0", "1.5", "0.000", "1.005", "1.0.0", "1..00", "1.00.", "100.", ".100", "10.0",
		// Noughts ahead; a minus that is none of an amount's.
		"00.00", "01.00", "-01.00", "-0.00", "007.50", "00000000000000000000000.05",
		"--1.00", "1.00-", "1-.00", "1.-00", "- 1.00", "-+1.00",
		// Other marks.
		"+1.00", "+0.00", " 1.00", "1.00 ", "1.00\n", "\t1.00", "1,00", "1'000.00", "1,000.00", "1_0.00", "1 000.00",
		"0x1.00", "1e2.00", "1.0e", "a.bc", "1.0a", "NaN", "inf", "/.//", ":.::", "\x00", "1.00\x00", "1.0\xff", "\xb1.\xb0\xb0",
		// Digits and marks of other scripts.
		"１.00", "1．00", "−1.00", "٣.00", "1.0٣",
		// Beyond 64 bits, with a sign: by one, and where they go round to a number that is none.
		"92233720368547758.08", "-92233720368547758.09", "92233720368547758.09",
		"184467440737095516.15", "184467440737095516.16", "-184467440737095516.16", "184467440737095516.17",
		"184467440737095521.16", "1844674407370955161.65", "99999999999999999999.99", "-99999999999999999999.99",
		long, long + ".00", "-" + long + ".99", "0." + long, strings.Repeat("0", 100000) + ".05",
		strings.Repeat("-", 100000), strings.Repeat(".", 100000),
	} {
		if n, ok := Parse(s); n != 0 || ok {
			t.Errorf("Parse(%.40q): %d, %t, not 0, false", s, n, ok)
		}
	}
}

// Texts one byte off an amount's are another amount's, or none's.
func TestP2_2ParseTellsJustTexts(t *testing.T) {
	marks := []string{"", "0", "1", "9", "-", ".", "+", " ", "a", "\x00", "\xff"}
	for _, n := range amounts() {
		s := Text(n)
		for i := range len(s) + 1 {
			for _, mark := range marks {
				holdParse(t, s[:i]+mark+s[i:])
				if i < len(s) {
					holdParse(t, s[:i]+mark+s[i+1:])
				}
			}
		}
	}
}

// holdParse holds Parse against another way to read a text.
func holdParse(t *testing.T, s string) {
	t.Helper()
	want, wantOk := readText(s)
	if got, ok := Parse(s); got != want || ok != wantOk {
		t.Fatalf("Parse(%q): %d, %t, not %d, %t", s, got, ok, want, wantOk)
	}
}

func readText(s string) (int64, bool) {
	digits, below := strings.CutPrefix(s, "-")
	whole, cents, ok := strings.Cut(digits, ".")
	if !ok || !isDigits(whole) || !isDigits(cents) || len(cents) != 2 || len(whole) > 1 && whole[0] == '0' {
		return 0, false
	}
	n, _ := new(big.Int).SetString(whole+cents, 10)
	if below && n.Sign() == 0 {
		return 0, false
	}
	if below {
		n.Neg(n)
	}
	return fits(n)
}

func isDigits(s string) bool {
	return s != "" && strings.Trim(s, "0123456789") == ""
}
