package calendar

import (
	"fmt"
	"math"
	"slices"
	"testing"

	"transposal/api"
	"transposal/day"
)

// The first and the last day that there are: January 1 of year 1, December 31 of year 9999.
const (
	first day.Day = -719162
	last  day.Day = 2932896
)

// edges are numbers at edges of days, rising.
var edges = []day.Day{math.MinInt32, first - 1, first, first + 1, -1, 0, 1, last - 1, last, last + 1, math.MaxInt32}

// wrong are numbers that are no days.
var wrong = []day.Day{math.MinInt32, math.MinInt32 + 1, first - 2, first - 1, last + 1, last + 2, math.MaxInt32 - 1, math.MaxInt32}

// of: a calendar of days: the last one is its End.
func of(days ...day.Day) Calendar {
	return Calendar{Starts: days[:len(days)-1], End: days[len(days)-1]}
}

// even: a calendar of n periods, each of so many days.
func even(n int, from, length day.Day) Calendar {
	c := Calendar{End: from}
	for range n {
		c.Starts = append(c.Starts, c.End)
		c.End += length
	}
	return c
}

// with: a calendar, one of its days another one: the one behind the last start is End.
func with(c Calendar, at int, d day.Day) Calendar {
	days := append(slices.Clone(c.Starts), c.End)
	days[at] = d
	return of(days...)
}

// lists: all lists of so many of these days, in any order, alike ones, too.
func lists(days []day.Day, size int) [][]day.Day {
	all := [][]day.Day{{}}
	for range size {
		var longer [][]day.Day
		for _, l := range all {
			for _, d := range days {
				longer = append(longer, append(slices.Clone(l), d))
			}
		}
		all = longer
	}
	return all
}

// guard: a calendar with marks in its spare room; what is called tells whether it, and they, are as they were.
func guard(c Calendar) (Calendar, func() bool) {
	room := make([]day.Day, len(c.Starts)+3)
	for at := copy(room, c.Starts); at < len(room); at++ {
		room[at] = day.Day(70000 + at)
	}
	were := slices.Clone(room)
	guarded := Calendar{Starts: room[:len(c.Starts)], End: c.End}
	return guarded, func() bool {
		return slices.Equal(room, were) && len(guarded.Starts) == len(c.Starts) && guarded.End == c.End
	}
}

// holdCheck holds Check of a calendar against what it must be; it stays as it was.
func holdCheck(t *testing.T, c Calendar, want api.Errno) {
	t.Helper()
	guarded, same := guard(c)
	if got := guarded.Check(); got != want {
		t.Errorf("Check of %v: %d, not %d", c, got, want)
	}
	if !same() {
		t.Errorf("Check of %v changed it", c)
	}
}

func TestP8_1CheckMayBe(t *testing.T) {
	for n := 1; n <= api.MaxPeriods; n++ {
		for _, length := range []day.Day{1, 2, 30, 365, 40000} {
			holdCheck(t, even(n, -10, length), api.OK)
			holdCheck(t, even(n, first, length), api.OK)
			holdCheck(t, even(n, last-day.Day(n)*length, length), api.OK)
		}
	}
	for _, c := range []Calendar{
		of(first, last), of(first, first+1), of(last-1, last), of(0, 1), of(-1, 0), of(-1, 1),
		of(first, 0, last), of(first, first+1, last-1, last), of(first, first+1, first+2), of(last-2, last-1, last),
		of(-70000, -256, -1, 0, 1, 255, 256, 65536, 70000),
	} {
		holdCheck(t, c, api.OK)
	}
}

// Periods are of any length, and a leap year's days are days.
func TestP8_1CheckMonths(t *testing.T) {
	var days []day.Day
	for _, x := range [][3]int{{1999, 12, 31}, {2000, 1, 1}, {2000, 2, 29}, {2000, 3, 1}, {2000, 12, 31}, {2001, 1, 1}} {
		d, ok := day.Of(x[0], x[1], x[2])
		if !ok {
			t.Fatalf("%v is no day", x)
		}
		days = append(days, d)
	}
	holdCheck(t, of(days...), api.OK)
	slices.Reverse(days)
	holdCheck(t, of(days...), api.ErrOrder)
}

// ErrSize is ahead of all that is wrong with a calendar.
func TestP8_1CheckSize(t *testing.T) {
	for _, end := range edges {
		holdCheck(t, Calendar{End: end}, api.ErrSize)
		holdCheck(t, Calendar{Starts: []day.Day{}, End: end}, api.ErrSize)
		for _, n := range []int{api.MaxPeriods + 1, api.MaxPeriods + 2, 100, 255, 256, 257, 512, 1<<16 + 1} {
			for _, d := range edges {
				c := Calendar{Starts: slices.Repeat([]day.Day{d}, n), End: end}
				if got := c.Check(); got != api.ErrSize {
					t.Errorf("Check of %d starts of %d, to %d: %d", n, d, end, got)
				}
			}
		}
	}
	for n := api.MaxPeriods + 1; n <= 400; n++ {
		holdCheck(t, even(n, 0, 1), api.ErrSize)
	}
	holdCheck(t, even(api.MaxPeriods, first-1, 1), api.ErrDay)
	holdCheck(t, even(api.MaxPeriods, 5, 0), api.ErrOrder)
}

// What is no day, alone, ahead of others, between them, behind them, as End.
func TestP8_1CheckDay(t *testing.T) {
	for _, d := range wrong {
		for _, c := range []Calendar{
			of(d, 5), of(5, d), of(d, d), of(d, 5, 6), of(5, d, 6), of(5, 6, d), of(first, d), of(d, last), of(first, d, last), of(d, first), of(last, d),
		} {
			holdCheck(t, c, api.ErrDay)
		}
		full := even(api.MaxPeriods, 100, 30)
		for at := range api.MaxPeriods + 1 {
			holdCheck(t, with(full, at, d), api.ErrDay)
		}
	}
}

// Each number near the first and the last day: the edge is where the document has it.
func TestP8_1CheckEdgesOfDays(t *testing.T) {
	for near := day.Day(-2000); near <= 2000; near++ {
		low, high := first+near, last+near
		if want := map[bool]api.Errno{true: api.ErrDay, false: api.OK}[near < 0]; of(low, 0).Check() != want {
			t.Errorf("Check of a start on %d: %d", low, of(low, 0).Check())
		}
		if want := map[bool]api.Errno{true: api.ErrDay, false: api.OK}[near > 0]; of(0, high).Check() != want {
			t.Errorf("Check of an End on %d: %d", high, of(0, high).Check())
		}
		if want := map[bool]api.Errno{true: api.ErrDay, false: api.ErrOrder}[near < 0]; of(0, low).Check() != want {
			t.Errorf("Check of an End on %d: %d", low, of(0, low).Check())
		}
		if want := map[bool]api.Errno{true: api.ErrDay, false: api.ErrOrder}[near > 0]; of(high, 0).Check() != want {
			t.Errorf("Check of a start on %d: %d", high, of(high, 0).Check())
		}
	}
}

func TestP8_1CheckOrder(t *testing.T) {
	for _, d := range []day.Day{first, first + 1, -256, -1, 0, 1, 255, 256, 65536, last - 1, last} {
		for _, c := range []Calendar{of(d, d), of(d, first), of(last, d), of(d, d, d), of(d, d, last), of(first, d, d)} {
			holdCheck(t, c, api.ErrOrder)
		}
	}
	for _, c := range []Calendar{
		of(2, 1), of(1, 2, 2), of(1, 1, 2), of(2, 1, 3), of(1, 3, 2), of(3, 1, 2), of(2, 3, 1), of(3, 2, 1), of(1, 2, 1), of(2, 1, 2),
		of(1, -2), of(-1, -2), of(0, 65536, 1), of(last, first), of(0, last, first), of(10, 20, 30, 29), of(10, 20, 30, 15),
	} {
		holdCheck(t, c, api.ErrOrder)
	}
	full := even(api.MaxPeriods, -500, 30)
	days := append(slices.Clone(full.Starts), full.End)
	for at := 1; at <= api.MaxPeriods; at++ {
		// Alike, and the wrong way round; the last of them is End.
		holdCheck(t, with(full, at, days[at-1]), api.ErrOrder)
		holdCheck(t, with(with(full, at, days[at-1]), at-1, days[at]), api.ErrOrder)
		holdCheck(t, with(full, at, days[at-1]-1), api.ErrOrder)
		holdCheck(t, with(full, at, days[at-1]+1), api.OK)
	}
}

// Calendars with two faults: one by one, and of one that it is no day ahead of its order.
func TestP8_1CheckOrderOfErrors(t *testing.T) {
	const none, beyond = first - 1, last + 1
	for _, x := range []struct {
		c    Calendar
		want api.Errno
	}{
		// Of one day.
		{of(5, none), api.ErrDay},
		{of(none, none), api.ErrDay},
		{of(beyond, beyond), api.ErrDay},
		{of(beyond+1, beyond), api.ErrDay},
		{of(5, none, 6), api.ErrDay},
		// Of one, then of another one.
		{of(5, 5, none), api.ErrOrder},
		{of(5, 4, beyond), api.ErrOrder},
		{of(5, 4, beyond, 9), api.ErrOrder},
		{of(5, none, 4), api.ErrDay},
		{of(5, beyond, 4), api.ErrDay},
		{of(none, 5, 5), api.ErrDay},
		{of(beyond, 5, 5), api.ErrDay},
		{of(5, 6, 6, 2, none), api.ErrOrder},
		{of(5, 6, none, 6, 6), api.ErrDay},
		{of(2, 1, none, beyond, 7), api.ErrOrder},
		{of(1, 2, 3, beyond, 3, 2), api.ErrDay},
	} {
		holdCheck(t, x.c, x.want)
	}
	for at := 1; at < api.MaxPeriods; at++ {
		full := even(api.MaxPeriods, 0, 30)
		disorder := with(full, at, full.Starts[at-1])
		holdCheck(t, with(disorder, at+1, beyond), api.ErrOrder)
		holdCheck(t, with(disorder, api.MaxPeriods, beyond), api.ErrOrder)
		holdCheck(t, with(disorder, at-1, none), api.ErrDay)
		holdCheck(t, with(disorder, 0, none), api.ErrDay)
	}
}

// told: what Check must tell of days, the last of them End, by the longest beginning that has no fault: the day behind it is the first one that has.
func told(days []day.Day) api.Errno {
	whole := 0
	for whole < len(days) {
		begin := slices.Clone(days[:whole+1])
		slices.Sort(begin)
		begin = slices.Compact(begin)
		if !slices.Equal(begin, days[:whole+1]) || begin[0] < first || begin[whole] > last {
			break
		}
		whole++
	}
	switch {
	case whole == len(days):
		return api.OK
	case days[whole] < first || days[whole] > last:
		return api.ErrDay
	}
	return api.ErrOrder
}

// All lists of some days at edges, held against another way to look for their faults.
func TestP8_1CheckEachList(t *testing.T) {
	seen := map[api.Errno]int{}
	for size := 2; size < 7; size++ {
		for _, days := range lists([]day.Day{first - 1, first, -1, 0, last, last + 1}, size) {
			want := told(days)
			seen[want]++
			if got := of(days...).Check(); got != want {
				t.Fatalf("Check of %v: %d, not %d", days, got, want)
			}
		}
	}
	if len(seen) != 3 {
		t.Errorf("the lists have errors %v", seen)
	}
}

// Len asks nothing of whether a calendar may be.
func TestP8_1Len(t *testing.T) {
	for n := range 300 {
		for _, length := range []day.Day{-1, 0, 1, 30} {
			guarded, same := guard(even(n, 7, length))
			if got := guarded.Len(); got != n {
				t.Errorf("Len of %d periods: %d", n, got)
			}
			if !same() {
				t.Errorf("Len of %d periods changed them", n)
			}
		}
	}
}

// holdPeriod holds Period of a day against what it must be; the calendar stays as it was.
func holdPeriod(t *testing.T, c Calendar, d day.Day, want int, there bool) {
	t.Helper()
	guarded, same := guard(c)
	if got, ok := guarded.Period(d); got != want || ok != there {
		t.Errorf("%v Period(%d): %d, %t, not %d, %t", c, d, got, ok, want, there)
	}
	if !same() {
		t.Errorf("%v Period(%d) changed it", c, d)
	}
}

func TestP8_1PeriodKnown(t *testing.T) {
	c := of(10, 20, 21, 40)
	for _, x := range []struct {
		d    day.Day
		want int
		ok   bool
	}{
		{9, 0, false},
		{10, 0, true},
		{15, 0, true},
		{19, 0, true},
		{20, 1, true},
		{21, 2, true},
		{22, 2, true},
		{39, 2, true},
		{40, 0, false},
		{41, 0, false},
		{0, 0, false},
		{-15, 0, false},
	} {
		holdPeriod(t, c, x.d, x.want, x.ok)
	}
}

// The chapter's example: a calendar of one period: a day within is in period 0.
func TestP8_1PeriodOfOne(t *testing.T) {
	c := of(0, 31)
	for d := day.Day(-40); d <= 80; d++ {
		holdPeriod(t, c, d, 0, d >= 0 && d <= 30)
	}
	// Of one day alone.
	for d := day.Day(-3); d <= 3; d++ {
		holdPeriod(t, of(0, 1), d, 0, d == 0)
	}
}

// within: in which period a day is, looked for one by one among all days of each.
func within(c Calendar, d day.Day) (int, bool) {
	for at, from := range c.Starts {
		behind := c.End
		if at+1 < len(c.Starts) {
			behind = c.Starts[at+1]
		}
		for each := from; each < behind; each++ {
			if each == d {
				return at, true
			}
		}
	}
	return 0, false
}

// All calendars of some days, and of each all days around.
func TestP8_1PeriodEach(t *testing.T) {
	for size := 2; size < 5; size++ {
		for _, days := range lists([]day.Day{-4, -3, -1, 0, 1, 5, 6}, size) {
			c := of(days...)
			if c.Check() != api.OK {
				continue
			}
			for d := day.Day(-7); d <= 9; d++ {
				want, there := within(c, d)
				holdPeriod(t, c, d, want, there)
			}
		}
	}
}

// Each start, the day ahead of it, days within, End, in calendars of each size.
func TestP8_1PeriodOfMany(t *testing.T) {
	for n := 1; n <= api.MaxPeriods; n++ {
		for _, length := range []day.Day{1, 2, 31, 40000} {
			c := even(n, first+30, length)
			for at, from := range c.Starts {
				holdPeriod(t, c, from, at, true)
				holdPeriod(t, c, from+length/2, at, true)
				holdPeriod(t, c, from+length-1, at, true)
				holdPeriod(t, c, from-1, max(at-1, 0), at > 0)
			}
			holdPeriod(t, c, c.End, 0, false)
			holdPeriod(t, c, c.End+1, 0, false)
		}
	}
}

// From the first day to the last: the numbers that are no days are in none.
func TestP8_1PeriodEdges(t *testing.T) {
	c := of(first, 0, last)
	for _, d := range append(slices.Clone(wrong), last) {
		holdPeriod(t, c, d, 0, false)
	}
	holdPeriod(t, c, first, 0, true)
	holdPeriod(t, c, first+1, 0, true)
	holdPeriod(t, c, -1, 0, true)
	holdPeriod(t, c, 0, 1, true)
	holdPeriod(t, c, 1, 1, true)
	holdPeriod(t, c, last-1, 1, true)
	short := of(5, 6)
	for _, d := range slices.Concat(wrong, []day.Day{first, last, 4, 6}) {
		holdPeriod(t, short, d, 0, false)
	}
}

// What stands in spare room is no start.
func TestP8_1PeriodLooksIntoNoSpareRoom(t *testing.T) {
	room := []day.Day{1, 5, 9, 13, 17}
	c := Calendar{Starts: room[1:3], End: 30}
	for d := day.Day(0); d < 32; d++ {
		want, there := 0, d >= 5 && d < 30
		if d >= 9 && there {
			want = 1
		}
		if got, ok := c.Period(d); got != want || ok != there {
			t.Errorf("Period(%d): %d, %t", d, got, ok)
		}
	}
	if c.Len() != 2 || c.Check() != api.OK || !Same(c, of(5, 9, 30)) {
		t.Error("spare room was looked into")
	}
}

// holdSame holds Same, both ways round, against what it must be; both stay as they were.
func holdSame(t *testing.T, a, b Calendar, want bool) {
	t.Helper()
	one, unchanged := guard(a)
	other, same := guard(b)
	if Same(one, other) != want || Same(other, one) != want {
		t.Errorf("Same of %v, %v: not %t", a, b, want)
	}
	if !unchanged() || !same() {
		t.Errorf("Same of %v, %v changed them", a, b)
	}
}

func TestP8_1Same(t *testing.T) {
	for n := 1; n <= api.MaxPeriods; n++ {
		c := even(n, -100, 30)
		holdSame(t, c, even(n, -100, 30), true)
		for at := range n + 1 {
			d := c.End
			if at < n {
				d = c.Starts[at]
			}
			for _, by := range []day.Day{-1, 1, 256, 65536} {
				holdSame(t, c, with(c, at, d+by), false)
			}
		}
		// One period more, one less, to the same End.
		holdSame(t, c, Calendar{Starts: c.Starts[:n-1], End: c.End}, false)
		holdSame(t, c, Calendar{Starts: c.Starts[1:], End: c.End}, false)
		holdSame(t, c, Calendar{Starts: append(slices.Clone(c.Starts), c.End-1), End: c.End}, false)
		// The same days, but for where End is.
		holdSame(t, c, Calendar{Starts: c.Starts[:n-1], End: c.Starts[n-1]}, false)
	}
}

// Same asks nothing of whether calendars may be; nil starts and empty ones are the same.
func TestP8_1SameOfAny(t *testing.T) {
	for _, end := range edges {
		holdSame(t, Calendar{End: end}, Calendar{Starts: []day.Day{}, End: end}, true)
		if !Same(Calendar{End: end}, Calendar{Starts: make([]day.Day, 0, 4), End: end}) || !Same(Calendar{Starts: []day.Day{}, End: end}, Calendar{End: end}) || !Same(Calendar{End: end}, Calendar{End: end}) {
			t.Errorf("Same of no starts, to %d: false", end)
		}
		if Same(Calendar{End: end}, Calendar{End: end + 1}) || Same(Calendar{Starts: []day.Day{0}, End: end}, Calendar{End: end}) || Same(Calendar{End: end}, Calendar{Starts: []day.Day{end}, End: end}) {
			t.Errorf("Same of no starts and others, to %d: true", end)
		}
	}
	var all []Calendar
	for size := 1; size < 4; size++ {
		for _, days := range lists([]day.Day{first - 1, 0, 1, last + 1}, size) {
			all = append(all, of(days...))
		}
	}
	for i, a := range all {
		for k, b := range all {
			holdSame(t, a, of(append(slices.Clone(b.Starts), b.End)...), i == k)
		}
	}
}

// Nil and empty starts are none.
func TestP8_1OfNone(t *testing.T) {
	room := []day.Day{4, 5, 6}
	for _, starts := range [][]day.Day{nil, {}, room[:0]} {
		c := Calendar{Starts: starts, End: 9}
		if c.Check() != api.ErrSize || c.Len() != 0 || !Same(c, Calendar{End: 9}) || Same(c, of(4, 9)) {
			t.Errorf("of no starts, %t: wrong", starts == nil)
		}
	}
	if !slices.Equal(room, []day.Day{4, 5, 6}) {
		t.Errorf("the room changed: %v", room)
	}
}

// P1: calls end, and none panics, of calendars that may not be, too; and these stay as they were.
func TestP1CallsEnd(t *testing.T) {
	many := append(slices.Repeat([]day.Day{9, 9, 2, math.MinInt32, math.MaxInt32, 500}, 5000), 7)
	all := []Calendar{{}, {Starts: []day.Day{}}, {End: math.MinInt32}, {End: math.MaxInt32}, of(many...)}
	for size := 1; size < 5; size++ {
		for _, days := range lists([]day.Day{math.MinInt32, 0, 4, math.MaxInt32}, size) {
			all = append(all, of(days...))
		}
	}
	for _, c := range all {
		guarded, same := guard(c)
		for _, d := range append(edges, 4, 5, 9) {
			guarded.Period(d)
		}
		guarded.Check()
		guarded.Len()
		Same(guarded, guarded)
		Same(guarded, Calendar{})
		if !same() {
			t.Fatalf("%.40v changed", fmt.Sprint(c))
		}
	}
}

// R5, R6: nothing is kept: what is handed in may change later, and calls answer by what it is then.
func TestP2NothingIsKept(t *testing.T) {
	c := of(2, 4, 8)
	other := of(2, 4, 8)
	for range 3 {
		at, ok := c.Period(5)
		if c.Check() != api.OK || at != 1 || !ok || !Same(c, other) {
			t.Fatal("of 2, 4 and 8")
		}
		c.Starts[1] = 6
		at, ok = c.Period(5)
		if c.Check() != api.OK || at != 0 || !ok || Same(c, other) || other.Starts[1] != 4 {
			t.Fatal("of 2, 6 and 8")
		}
		c.Starts[1], c.End = 4, 5
		at, ok = c.Period(5)
		if c.Check() != api.OK || at != 0 || ok || Same(c, other) || other.End != 8 {
			t.Fatal("of 2, 4 and 5")
		}
		c.Starts[1] = 2
		if c.Check() != api.ErrOrder {
			t.Fatal("of 2, 2 and 5")
		}
		c.Starts[1], c.End = 4, 8
	}
}
