package day

import (
	"fmt"
	"math"
	"strings"
	"testing"
	"time"
)

const (
	first Day = -719162 // January 1 of year 1
	last  Day = 2932896 // December 31 of year 9999
)

// date is a year, a month and a day, there be such or not.
type date struct{ y, m, d int }

// known are days whose numbers are known from elsewhere than this package.
var known = []struct {
	date
	n    Day
	text string
}{
	{date{1970, 1, 1}, 0, "1970-01-01"},
	{date{1970, 1, 2}, 1, "1970-01-02"},
	{date{1969, 12, 31}, -1, "1969-12-31"},
	{date{2000, 2, 29}, 11016, "2000-02-29"},
	{date{2000, 3, 1}, 11017, "2000-03-01"},
	{date{2026, 11, 18}, 20775, "2026-11-18"},
	{date{2038, 1, 19}, 24855, "2038-01-19"},
	// The first and the last ones.
	{date{1, 1, 1}, first, "0001-01-01"},
	{date{1, 1, 2}, first + 1, "0001-01-02"},
	{date{1, 12, 31}, first + 364, "0001-12-31"},
	{date{2, 1, 1}, first + 365, "0002-01-01"},
	{date{9999, 12, 30}, last - 1, "9999-12-30"},
	{date{9999, 12, 31}, last, "9999-12-31"},
	{date{9999, 1, 1}, last - 364, "9999-01-01"},
	// The first leap year, and years of hundreds that are none, or are.
	{date{4, 2, 29}, -718008, "0004-02-29"},
	{date{4, 12, 31}, -717702, "0004-12-31"},
	{date{100, 2, 28}, -682945, "0100-02-28"},
	{date{100, 3, 1}, -682944, "0100-03-01"},
	{date{400, 2, 29}, -573372, "0400-02-29"},
	{date{1600, 2, 29}, -135081, "1600-02-29"},
	{date{1900, 2, 28}, -25509, "1900-02-28"},
	{date{1900, 3, 1}, -25508, "1900-03-01"},
	{date{2100, 3, 1}, 47541, "2100-03-01"},
	// The calendar of today, where another one stood once.
	{date{1582, 10, 4}, -141438, "1582-10-04"},
	{date{1582, 10, 5}, -141437, "1582-10-05"},
	{date{1582, 10, 15}, -141427, "1582-10-15"},
}

func TestP4_1Known(t *testing.T) {
	for _, x := range known {
		hold(t, x.date, x.n, x.text)
	}
}

// hold: of a day that is there all four calls answer what they must.
func hold(t *testing.T, x date, n Day, text string) {
	t.Helper()
	if got, ok := Of(x.y, x.m, x.d); got != n || !ok {
		t.Fatalf("Of(%d, %d, %d): %d, %t, not %d, true", x.y, x.m, x.d, got, ok, n)
	}
	if y, m, d := n.Date(); (date{y, m, d}) != x {
		t.Fatalf("Day(%d).Date(): %d, %d, %d, not %v", n, y, m, d, x)
	}
	if got := n.Text(); got != text {
		t.Fatalf("Day(%d).Text(): %q, not %q", n, got, text)
	}
	if got, ok := Parse(text); got != n || !ok {
		t.Fatalf("Parse(%q): %d, %t, not %d, true", text, got, ok, n)
	}
}

// Each day that is there, one behind the other, by the library's calendar.
func TestP4_1EachDay(t *testing.T) {
	at := time.Date(1, 1, 1, 0, 0, 0, 0, time.UTC)
	n := first
	for ; at.Year() <= 9999; at = at.AddDate(0, 0, 1) {
		if want := at.Unix() / 86400; int64(n) != want {
			t.Fatalf("%v is day %d, not %d", at, want, n)
		}
		y, m, d := at.Date()
		hold(t, date{y, int(m), d}, n, at.Format("2006-01-02"))
		n++
	}
	if n != last+1 {
		t.Errorf("the last one is %d, not %d", n-1, last)
	}
}

// ends: how many days the months of a year have, month by month.
func ends(y int) [12]int {
	february := 28
	if y%400 == 0 || y%4 == 0 && y%100 != 0 {
		february = 29
	}
	return [12]int{31, february, 31, 30, 31, 30, 31, 31, 30, 31, 30, 31}
}

// Of each month of each year the days from 1 up to its end are there, and no others.
func TestP4_1OfEndsOfMonths(t *testing.T) {
	n := first
	for y := 1; y <= 9999; y++ {
		for i, end := range ends(y) {
			m := i + 1
			for d := -1; d <= 33; d++ {
				got, ok := Of(y, m, d)
				switch there := 1 <= d && d <= end; {
				case there && (got != n || !ok):
					t.Fatalf("Of(%d, %d, %d): %d, %t, not %d, true", y, m, d, got, ok, n)
				case there:
					n++
				case got != 0 || ok:
					t.Fatalf("Of(%d, %d, %d): %d, %t, not 0, false", y, m, d, got, ok)
				}
			}
		}
	}
}

func TestP4_1OfWrong(t *testing.T) {
	for _, x := range []date{
		{0, 0, 0},
		// Years.
		{0, 1, 1}, {0, 12, 31}, {0, 2, 29}, {-1, 1, 1}, {-4, 2, 29}, {-1970, 1, 1}, {10000, 1, 1}, {10000, 2, 29}, {10001, 12, 31},
		// Months.
		{1970, 0, 1}, {1970, 13, 1}, {1970, 14, 31}, {1970, -1, 1}, {1970, -12, 1}, {1, 0, 1}, {9999, 13, 1},
		// Days.
		{1970, 1, 0}, {1970, 1, -1}, {1970, 1, 32}, {1, 1, 0}, {9999, 12, 32}, {1970, 4, 31}, {1970, 6, 31}, {1970, 9, 31}, {1970, 11, 31},
		{1970, 2, 29}, {1970, 2, 30}, {2000, 2, 30}, {1900, 2, 29}, {2100, 2, 29}, {100, 2, 29}, {1, 2, 29}, {9999, 2, 29},
		// Parts that would stand for another date.
		{1970, 1, 366}, {1969, 13, 1}, {1970, 2, 0}, {1971, 0, 31}, {70, 0, 0}, {0, 23641, 1}, {0, 1, 719163},
		// Each part at the edges of 64 bits, and where its lower 32, 16 or 8 bits may be.
		{math.MaxInt, 1, 1}, {math.MinInt, 1, 1}, {1970, math.MaxInt, 1}, {1970, math.MinInt, 1}, {1970, 1, math.MaxInt}, {1970, 1, math.MinInt},
		{math.MinInt, math.MinInt, math.MinInt}, {math.MaxInt, math.MaxInt, math.MaxInt},
		{1<<32 + 1970, 1, 1}, {1970, 1<<32 + 1, 1}, {1970, 1, 1<<32 + 1}, {-1<<32 + 1970, 1, 1}, {1970, -1<<32 + 1, 1}, {1970, 1, -1<<32 + 1},
		{1<<16 + 1970, 1, 1}, {1970, 1<<16 + 1, 1}, {1970, 1, 1<<16 + 1}, {1970, 257, 1}, {1970, 1, 257},
	} {
		if n, ok := Of(x.y, x.m, x.d); n != 0 || ok {
			t.Errorf("Of(%d, %d, %d): %d, %t, not 0, false", x.y, x.m, x.d, n, ok)
		}
	}
}

// Numbers that are no day, from just beyond the first and the last one up to the edges of 32 bits.
func TestP4_1NoDay(t *testing.T) {
	l := []Day{first - 1, last + 1, math.MinInt32, math.MinInt32 + 1, math.MaxInt32, math.MaxInt32 - 1}
	for i := range Day(1000) {
		l = append(l, first-2-i, last+2+i, math.MinInt32+i*1000000, math.MaxInt32-i*1000000)
	}
	for _, n := range l {
		if first <= n && n <= last {
			continue
		}
		if y, m, d := n.Date(); y != 0 || m != 0 || d != 0 {
			t.Errorf("Day(%d).Date(): %d, %d, %d, not noughts", n, y, m, d)
		}
		if got := n.Text(); got != "" {
			t.Errorf("Day(%d).Text(): %q, not empty", n, got)
		}
	}
}

func TestP4_1ParseWrong(t *testing.T) {
	long := strings.Repeat("9", 100000)
	for _, s := range []string{
		"", "-", "--", "0", "1970", "1970-01", "1970-01-", "19700101", "1970-001", "----------",
		// There are none such.
		"0000-00-00", "0000-01-01", "0000-02-29", "0000-12-31", "1970-00-01", "1970-13-01", "1970-01-00", "1970-01-32", "1970-04-31",
		"1970-02-29", "2000-02-30", "1900-02-29", "2100-02-29", "0100-02-29", "9999-02-29", "1970-99-99", "9999-12-32", "9999-13-01",
		// Digits are missing, or too many, or stand elsewhere.
		"970-01-01", "70-01-01", "1-1-1", "1970-1-01", "1970-01-1", "1970-1-1", "1970-1-001", "197-001-01", "197-01-001", "19700-1-01",
		"1970-001-1", "01970-01-01", "10000-01-01", "10000-1-01", "1970-01-001", "1970-001-01", "01-01-1970", "01-1970-01",
		// Signs, blanks, other marks.
		"-001-01-01", "-1970-01-01", "+1970-01-01", "+970-01-01", "1970-+1-01", "1970-01-+1", "1970--1-01", "1970-01--1", "1970- 1-01",
		" 970-01-01", "1970-01- 1", " 1970-01-01", "1970-01-01 ", "1970-01-01\n", "1970-01-1\n", "1970-01-01T", "1970-01-01-", "-1970-01-0",
		"1970/01/01", "1970.01.01", "1970 01 01", "1970_01_01", "1970:01:01", "1970-01/01", "1970/01-01", "1970101101", "1970-01001",
		"0x10-01-01", "1e03-01-01", "1_70-01-01", "1970-0a-01", "1970-01-0a", "abcd-ef-gh", "YYYY-MM-DD", "1970-Jan-1",
		// Other bytes whose sum of tens comes to the number of digits.
		"196:-01-01", "18::-01-01", "1970-0\xbd-01", "1970-/;-01", "1970-01-/;", "1970-01-1/", "\x00\x00\x00\x00-\x00\x00-\x00\x00", "\xff\xff\xff\xff-\xff\xff-\xff\xff",
		// Digits and marks of other scripts.
		"１９７０-01-01", "1970-0１-01", "1970‐01‐01", "1970−01−01", "٣", "197٣-01-0",
		long, "1970-01-01" + long, long + "-01-01", strings.Repeat("-", 100000), strings.Repeat("0", 100000) + "1970-01-01",
	} {
		if n, ok := Parse(s); n != 0 || ok {
			t.Errorf("Parse(%.40q): %d, %t, not 0, false", s, n, ok)
		}
	}
}

// Texts one byte off a day's are another day's, or none's.
func TestP4_1ParseTellsJustTexts(t *testing.T) {
	for _, x := range known {
		for i := range len(x.text) + 1 {
			holdParse(t, x.text[:i])
			for b := range 256 {
				mark := string([]byte{byte(b)})
				holdParse(t, x.text[:i]+mark+x.text[i:])
				if i < len(x.text) {
					holdParse(t, x.text[:i]+mark+x.text[i+1:])
				}
			}
		}
	}
}

// Each text of two digits as month and as day, of years that are a leap year or none.
func TestP4_1ParseEachMonthAndDay(t *testing.T) {
	for _, y := range []int{0, 1, 4, 1900, 1970, 2000, 2024, 9999} {
		for m := range 100 {
			for d := range 100 {
				holdParse(t, fmt.Sprintf("%04d-%02d-%02d", y, m, d))
			}
		}
	}
}

// holdParse holds Parse against the library's way to read a text.
func holdParse(t *testing.T, s string) {
	t.Helper()
	var want Day
	at, err := time.Parse("2006-01-02", s)
	there := err == nil && len(s) == 10 && at.Year() >= 1
	if there {
		want = Day(at.Unix() / 86400)
	}
	if n, ok := Parse(s); n != want || ok != there {
		t.Fatalf("Parse(%q): %d, %t, not %d, %t", s, n, ok, want, there)
	}
}
