package book

import (
	"fmt"
	"math"
	"math/rand"
	"slices"
	"strings"
	"testing"

	"transposal/api"
	"transposal/calendar"
	"transposal/chart"
	"transposal/day"
	"transposal/entry"
	"transposal/unit"
)

// The first and the last day that there are: January 1 of year 1, December 31 of year 9999.
const (
	first day.Day = -719162
	last  day.Day = 2932896
)

// frame: accounts 10, 20 (in 10) and 30, entities 1, 3 and 5, periods from day 0 to 30 and from day 31 to 58.
func frame() Frame {
	return Frame{
		Chart:    chart.Chart{{Code: 10, Name: "Cash"}, {Code: 20, Name: "Cash in bank", Parent: 10}, {Code: 30, Name: "Sales", Kind: chart.Income}},
		Units:    unit.Units{1, 3, 5},
		Calendar: calendar.Calendar{Starts: []day.Day{0, 31}, End: 59},
	}
}

// sale: a journal that may be in frame's books, on a day of its periods.
func sale(d day.Day) entry.Journal {
	return entry.Journal{Day: d, Lines: []entry.Line{
		{Account: 20, Entity: 1, Counter: 3, Amount: 100},
		{Account: 30, Entity: 1, Amount: -100},
	}}
}

// on: a book of frame's, with a sale on each of these days.
func on(days ...day.Day) Book {
	b := Book{Frame: frame()}
	for _, d := range days {
		b.Journals = append(b.Journals, sale(d))
	}
	return b
}

// of: a book of frame's, with these journals.
func of(journals ...entry.Journal) Book {
	return Book{Frame: frame(), Journals: journals}
}

// pair: two lines of an account, an entity and a Counter, that sum to 0.
func pair(account uint32, entity, counter uint16) []entry.Line {
	return []entry.Line{
		{Account: account, Entity: entity, Counter: counter, Amount: 5},
		{Account: account, Entity: entity, Counter: counter, Amount: -5},
	}
}

// clonedFrame: the same, in other memory.
func clonedFrame(f Frame) Frame {
	return Frame{
		Chart:    slices.Clone(f.Chart),
		Units:    slices.Clone(f.Units),
		Calendar: calendar.Calendar{Starts: slices.Clone(f.Calendar.Starts), End: f.Calendar.End},
	}
}

// cloned: the same, in other memory.
func cloned(b Book) Book {
	other := Book{Frame: clonedFrame(b.Frame)}
	for _, j := range b.Journals {
		other.Journals = append(other.Journals, entry.Journal{Day: j.Day, Lines: slices.Clone(j.Lines)})
	}
	return other
}

// roomy: a list with marks in its spare room; what is called tells whether it, and they, are as they were.
func roomy[T comparable](l []T, mark T) ([]T, func() bool) {
	room := make([]T, len(l)+3)
	for at := copy(room, l); at < len(room); at++ {
		room[at] = mark
	}
	were := slices.Clone(room)
	return room[:len(l)], func() bool { return slices.Equal(room, were) }
}

// guardFrame: a frame with marks in all spare rooms; what is called tells whether it, and they, are as they were.
func guardFrame(f Frame) (Frame, func() bool) {
	accounts, sameAccounts := roomy(f.Chart, chart.Account{Code: 77777, Name: "mark", Kind: chart.Expense, Parent: 88888})
	units, sameUnits := roomy(f.Units, 777)
	starts, sameStarts := roomy(f.Calendar.Starts, 7777)
	guarded := Frame{Chart: accounts, Units: units, Calendar: calendar.Calendar{Starts: starts, End: f.Calendar.End}}
	return guarded, func() bool { return sameAccounts() && sameUnits() && sameStarts() }
}

// guard: a book with marks in all spare rooms; what is called tells whether it, and they, are as they were.
func guard(b Book) (Book, func() bool) {
	framed, sameFrame := guardFrame(b.Frame)
	looks := []func() bool{sameFrame}
	room := make([]entry.Journal, len(b.Journals)+3)
	for at := range room {
		j := entry.Journal{Day: 77777}
		if at < len(b.Journals) {
			j.Day = b.Journals[at].Day
			lines, sameLines := roomy(b.Journals[at].Lines, entry.Line{Account: 70, Entity: 7, Counter: 77, Amount: 777})
			j.Lines = lines
			looks = append(looks, sameLines)
		}
		room[at] = j
	}
	were := slices.Clone(room)
	looks = append(looks, func() bool { return slices.EqualFunc(room, were, unmoved) })
	return Book{Frame: framed, Journals: room[:len(b.Journals)]}, func() bool {
		return !slices.ContainsFunc(looks, func(look func() bool) bool { return !look() })
	}
}

// unmoved: is a journal of the same day, with its lines at the same place?
func unmoved(a, b entry.Journal) bool {
	if a.Day != b.Day || len(a.Lines) != len(b.Lines) {
		return false
	}
	return len(a.Lines) == 0 || &a.Lines[0] == &b.Lines[0]
}

// short: a book, or a frame, as far as a failing test tells of it.
func short(x any) string {
	return fmt.Sprintf("%.400s", fmt.Sprint(x))
}

// holdFrame holds a frame's Check against what it must be; the frame stays as it was.
func holdFrame(t *testing.T, f Frame, want api.Errno) {
	t.Helper()
	guarded, same := guardFrame(f)
	if got := guarded.Check(); got != want {
		t.Errorf("Check of %s: %d, not %d", short(f), got, want)
	}
	if !same() {
		t.Errorf("Check of %s changed it", short(f))
	}
}

// holdLine holds a line in a frame, and in a book of that frame, against what it must be; both stay as they were.
func holdLine(t *testing.T, f Frame, l entry.Line, want api.Errno) {
	t.Helper()
	guarded, same := guard(Book{Frame: f, Journals: []entry.Journal{sale(5)}})
	if got := guarded.Frame.Line(l); got != want {
		t.Errorf("Line(%v) of %s: %d, not %d", l, short(f), got, want)
	}
	if got := guarded.Line(l); got != want {
		t.Errorf("Line(%v) of a book of %s: %d, not %d", l, short(f), got, want)
	}
	if !same() {
		t.Errorf("Line(%v) of %s changed it", l, short(f))
	}
}

// flat: n accounts that may be, each in none.
func flat(n int) chart.Chart {
	var c chart.Chart
	for i := range n {
		c = append(c, chart.Account{Code: uint32(i + 1), Name: "n"})
	}
	return c
}

// deep: n accounts, each in the one ahead of it.
func deep(n int) chart.Chart {
	c := flat(n)
	for at := range c {
		c[at].Parent = uint32(at)
	}
	return c
}

// rising: n entities that may be.
func rising(n int) unit.Units {
	u := unit.Units{}
	for i := range n {
		u = append(u, uint16(i+1))
	}
	return u
}

// even: a calendar of n periods of a day each, from day 0 on.
func even(n int) calendar.Calendar {
	c := calendar.Calendar{End: day.Day(n)}
	for i := range n {
		c.Starts = append(c.Starts, day.Day(i))
	}
	return c
}

// charts are charts, each with the error that its Check must tell.
func charts() []struct {
	c chart.Chart
	e api.Errno
} {
	return []struct {
		c chart.Chart
		e api.Errno
	}{
		{nil, api.OK},
		{chart.Chart{}, api.OK},
		{frame().Chart, api.OK},
		{flat(api.MaxAccounts), api.OK},
		{deep(api.MaxDeep), api.OK},
		{chart.Chart{{Code: api.MaxCode, Name: strings.Repeat("x", api.MaxName), Kind: chart.Expense}}, api.OK},
		{flat(api.MaxAccounts + 1), api.ErrSize},
		{chart.Chart{{Code: 0, Name: "n"}}, api.ErrRange},
		{chart.Chart{{Code: api.MaxCode + 1, Name: "n"}}, api.ErrRange},
		{chart.Chart{{Code: 2, Name: "n"}, {Code: 2, Name: "n"}}, api.ErrOrder},
		{chart.Chart{{Code: 2, Name: "n"}, {Code: 1, Name: "n"}}, api.ErrOrder},
		{chart.Chart{{Code: 2}}, api.ErrName},
		{chart.Chart{{Code: 2, Name: "n", Kind: chart.Kinds}}, api.ErrKind},
		{chart.Chart{{Code: 2, Name: "n", Parent: 1}}, api.ErrNone},
		{chart.Chart{{Code: 1, Name: "n"}, {Code: 2, Name: "n", Kind: chart.Equity, Parent: 1}}, api.ErrKind},
		{deep(api.MaxDeep + 1), api.ErrDeep},
	}
}

// entities are entities, each with the error that their Check must tell.
func entities() []struct {
	u unit.Units
	e api.Errno
} {
	return []struct {
		u unit.Units
		e api.Errno
	}{
		{nil, api.OK},
		{unit.Units{}, api.OK},
		{frame().Units, api.OK},
		{rising(api.MaxUnits), api.OK},
		{unit.Units{1, api.MaxEntity}, api.OK},
		{rising(api.MaxUnits + 1), api.ErrSize},
		{unit.Units{0}, api.ErrRange},
		{unit.Units{1, api.MaxEntity + 1}, api.ErrRange},
		{unit.Units{1, 1}, api.ErrOrder},
		{unit.Units{1, 3, 2}, api.ErrOrder},
	}
}

// calendars are calendars, each with the error that its Check must tell.
func calendars() []struct {
	c calendar.Calendar
	e api.Errno
} {
	return []struct {
		c calendar.Calendar
		e api.Errno
	}{
		{frame().Calendar, api.OK},
		{even(1), api.OK},
		{even(api.MaxPeriods), api.OK},
		{calendar.Calendar{Starts: []day.Day{first}, End: last}, api.OK},
		{calendar.Calendar{}, api.ErrSize},
		{calendar.Calendar{Starts: []day.Day{}, End: 5}, api.ErrSize},
		{even(api.MaxPeriods + 1), api.ErrSize},
		{calendar.Calendar{Starts: []day.Day{first - 1}, End: 5}, api.ErrDay},
		{calendar.Calendar{Starts: []day.Day{5}, End: last + 1}, api.ErrDay},
		{calendar.Calendar{Starts: []day.Day{5}, End: 5}, api.ErrOrder},
		{calendar.Calendar{Starts: []day.Day{5, 4}, End: 9}, api.ErrOrder},
	}
}

// Each chart with each entities with each calendar: the chart's error is ahead of the entities', that ahead of the calendar's.
func TestP10_1FrameCheck(t *testing.T) {
	seen := map[api.Errno]int{}
	for _, c := range charts() {
		for _, u := range entities() {
			for _, p := range calendars() {
				want := c.e
				if want == api.OK {
					want = u.e
				}
				if want == api.OK {
					want = p.e
				}
				seen[want]++
				holdFrame(t, Frame{c.c, u.u, p.c}, want)
			}
		}
	}
	if len(seen) != 9 {
		t.Errorf("the frames have errors %v", seen)
	}
}

// Of a frame without anything the accounts and entities may be, the calendar may not.
func TestP10_1FrameCheckOfNone(t *testing.T) {
	if got := (Frame{}).Check(); got != api.ErrSize {
		t.Errorf("Check of nothing: %d", got)
	}
	if got := (Frame{Calendar: even(1)}).Check(); got != api.OK {
		t.Errorf("Check of a period alone: %d", got)
	}
	if got := (Frame{Chart: chart.Chart{}, Units: unit.Units{}, Calendar: even(1)}).Check(); got != api.OK {
		t.Errorf("Check of empty accounts, empty entities and a period: %d", got)
	}
}

// What isn't there, one by one, and two or three of them at once.
func TestP10_1LineKnown(t *testing.T) {
	for _, x := range []struct {
		l    entry.Line
		want api.Errno
	}{
		{entry.Line{Account: 10, Entity: 1, Amount: 5}, api.OK},
		{entry.Line{Account: 20, Entity: 3, Amount: 5}, api.OK},
		{entry.Line{Account: 30, Entity: 5, Amount: -5}, api.OK},
		// A Counter of 0 is none, one may be the line's own entity, or another one.
		{entry.Line{Account: 10, Entity: 1, Counter: 0, Amount: 5}, api.OK},
		{entry.Line{Account: 10, Entity: 1, Counter: 1, Amount: 5}, api.OK},
		{entry.Line{Account: 10, Entity: 1, Counter: 3, Amount: 5}, api.OK},
		{entry.Line{Account: 10, Entity: 5, Counter: 1, Amount: 5}, api.OK},
		{entry.Line{Account: 0, Entity: 1, Amount: 5}, api.ErrNone},
		{entry.Line{Account: 9, Entity: 1, Amount: 5}, api.ErrNone},
		{entry.Line{Account: 11, Entity: 1, Amount: 5}, api.ErrNone},
		{entry.Line{Account: 31, Entity: 1, Amount: 5}, api.ErrNone},
		{entry.Line{Account: 1, Entity: 1, Amount: 5}, api.ErrNone},
		{entry.Line{Account: 10, Entity: 0, Amount: 5}, api.ErrNone},
		{entry.Line{Account: 10, Entity: 2, Amount: 5}, api.ErrNone},
		{entry.Line{Account: 10, Entity: 6, Amount: 5}, api.ErrNone},
		{entry.Line{Account: 10, Entity: 10, Amount: 5}, api.ErrNone},
		{entry.Line{Account: 10, Entity: 1, Counter: 2, Amount: 5}, api.ErrNone},
		{entry.Line{Account: 10, Entity: 1, Counter: 6, Amount: 5}, api.ErrNone},
		{entry.Line{Account: 10, Entity: 1, Counter: 10, Amount: 5}, api.ErrNone},
		// Of an entity that isn't there the own one isn't there either.
		{entry.Line{Account: 10, Entity: 2, Counter: 2, Amount: 5}, api.ErrNone},
		{entry.Line{Account: 10, Entity: 2, Counter: 1, Amount: 5}, api.ErrNone},
		{entry.Line{Account: 11, Entity: 2, Amount: 5}, api.ErrNone},
		{entry.Line{Account: 11, Entity: 1, Counter: 2, Amount: 5}, api.ErrNone},
		{entry.Line{Account: 10, Entity: 0, Counter: 2, Amount: 5}, api.ErrNone},
		{entry.Line{Account: 11, Entity: 2, Counter: 4, Amount: 5}, api.ErrNone},
		{entry.Line{}, api.ErrNone},
	} {
		holdLine(t, frame(), x.l, x.want)
	}
}

// Any amount: that is for the journal's Check.
func TestP10_1LineAsksNoAmount(t *testing.T) {
	for _, n := range []int64{math.MinInt64, math.MinInt64 + 1, -1, 0, 1, math.MaxInt64} {
		holdLine(t, frame(), entry.Line{Account: 20, Entity: 3, Counter: 5, Amount: n}, api.OK)
		holdLine(t, frame(), entry.Line{Account: 21, Entity: 3, Counter: 5, Amount: n}, api.ErrNone)
		holdLine(t, frame(), entry.Line{Account: 20, Entity: 4, Counter: 5, Amount: n}, api.ErrNone)
		holdLine(t, frame(), entry.Line{Account: 20, Entity: 3, Counter: 4, Amount: n}, api.ErrNone)
	}
}

// subsets: all of some of these numbers, in their order.
func subsets[T any](numbers []T) [][]T {
	var all [][]T
	for some := range 1 << len(numbers) {
		var l []T
		for i, n := range numbers {
			if some>>i&1 == 1 {
				l = append(l, n)
			}
		}
		all = append(all, l)
	}
	return all
}

// All frames of some accounts and some entities, and all lines of these and of those beside them.
func TestP10_1LineEach(t *testing.T) {
	codes := []uint32{1, 2, 256, api.MaxCode}
	numbers := []uint16{1, 2, 256, api.MaxEntity}
	for _, some := range subsets(codes) {
		f := Frame{Calendar: even(1)}
		for _, code := range some {
			f.Chart = append(f.Chart, chart.Account{Code: code, Name: "n"})
		}
		for _, units := range subsets(numbers) {
			f.Units = units
			for _, account := range append(codes, 0, 3, 255, 257, api.MaxCode+1, math.MaxUint32) {
				for _, entity := range append(numbers, 0, 3, math.MaxUint16) {
					for _, counter := range append(numbers, 0, 3, math.MaxUint16) {
						want := api.OK
						if !slices.Contains(some, account) || !slices.Contains(units, entity) || counter > 0 && !slices.Contains(units, counter) {
							want = api.ErrNone
						}
						if got := f.Line(entry.Line{Account: account, Entity: entity, Counter: counter, Amount: 1}); got != want {
							t.Fatalf("Line of %d, %d, %d in %v: %d, not %d", account, entity, counter, f, got, want)
						}
					}
				}
			}
		}
	}
}

// Of as many accounts and entities as may be each is there, and none beside them.
func TestP10_1LineOfMany(t *testing.T) {
	f := Frame{Chart: flat(api.MaxAccounts), Units: rising(api.MaxUnits), Calendar: even(1)}
	for account := range uint32(api.MaxAccounts + 100) {
		for entity := range uint16(api.MaxUnits + 10) {
			there := account >= 1 && account <= api.MaxAccounts && entity >= 1 && entity <= api.MaxUnits
			want := map[bool]api.Errno{true: api.OK, false: api.ErrNone}[there]
			if got := f.Line(entry.Line{Account: account, Entity: entity, Amount: 1}); got != want {
				t.Fatalf("Line of %d, %d: %d", account, entity, got)
			}
			want = map[bool]api.Errno{true: api.OK, false: api.ErrNone}[account >= 1 && account <= api.MaxAccounts && entity <= api.MaxUnits]
			if got := f.Line(entry.Line{Account: account, Entity: 1, Counter: entity, Amount: 1}); got != want {
				t.Fatalf("Line of %d with %d: %d", account, entity, got)
			}
		}
	}
}

// In a frame of nothing no line may be; without accounts, or without entities, none either. What stands in spare room isn't there.
func TestP10_1LineOfNone(t *testing.T) {
	accounts, units := frame().Chart, frame().Units
	l := entry.Line{Account: 10, Entity: 1, Amount: 5}
	for _, f := range []Frame{
		{},
		{Calendar: even(1)},
		{Chart: accounts},
		{Units: units},
		{Chart: accounts, Units: unit.Units{}},
		{Chart: chart.Chart{}, Units: units},
		{Chart: accounts[:0], Units: units},
		{Chart: accounts, Units: units[:0]},
		{Chart: accounts[1:], Units: units},
		{Chart: accounts, Units: units[1:]},
	} {
		if got := f.Line(l); got != api.ErrNone {
			t.Errorf("Line of %v: %d", f, got)
		}
		if got := f.Line(entry.Line{}); got != api.ErrNone {
			t.Errorf("Line of %v, of nothing: %d", f, got)
		}
	}
	// Of the calendar a line asks nothing.
	if got := (Frame{Chart: accounts[:1], Units: units[:1]}).Line(l); got != api.OK {
		t.Errorf("Line without a calendar: %d", got)
	}
}

// Line asks nothing of whether the frame may be: what is there is there, in any order.
func TestP10_1LineOfAnyOrder(t *testing.T) {
	codes := []uint32{30, 0, 10, math.MaxUint32, 20, 10}
	numbers := []uint16{5, 0, 1, math.MaxUint16, 3, 1}
	r := rand.New(rand.NewSource(10))
	for range 200 {
		f := Frame{}
		for i := range codes {
			f.Chart = append(f.Chart, chart.Account{Code: codes[i]})
			f.Units = append(f.Units, numbers[i])
		}
		for i := range codes {
			for k := range numbers {
				holdLine(t, f, entry.Line{Account: codes[i], Entity: numbers[k]}, api.OK)
				holdLine(t, f, entry.Line{Account: codes[i], Entity: numbers[k], Counter: numbers[i]}, api.OK)
				holdLine(t, f, entry.Line{Account: codes[i] + 1<<8, Entity: numbers[k]}, api.ErrNone)
				holdLine(t, f, entry.Line{Account: codes[i], Entity: numbers[k] + 1<<8}, api.ErrNone)
				holdLine(t, f, entry.Line{Account: codes[i], Entity: numbers[k], Counter: numbers[i] + 1<<8}, api.ErrNone)
			}
		}
		r.Shuffle(len(codes), func(a, b int) { codes[a], codes[b] = codes[b], codes[a] })
		r.Shuffle(len(numbers), func(a, b int) { numbers[a], numbers[b] = numbers[b], numbers[a] })
	}
}

// holdDays holds Days against what it must be; the book stays as it was.
func holdDays(t *testing.T, b Book, from, to day.Day, some bool) {
	t.Helper()
	guarded, same := guard(b)
	if one, other, ok := guarded.Days(); one != from || other != to || ok != some {
		t.Errorf("Days of %s: %d, %d, %t, not %d, %d, %t", short(b), one, other, ok, from, to, some)
	}
	if !same() {
		t.Errorf("Days of %s changed it", short(b))
	}
}

// R3: of no journals, nil or empty, Days answers zeros beside false, whatever the calendar is.
func TestP10_1DaysOfNone(t *testing.T) {
	room := on(7, 8, 9)
	for _, journals := range [][]entry.Journal{nil, {}, room.Journals[:0]} {
		for _, f := range []Frame{{}, frame(), {Calendar: calendar.Calendar{Starts: []day.Day{-5}, End: 9}}} {
			if from, to, ok := (Book{Frame: f, Journals: journals}).Days(); from != 0 || to != 0 || ok {
				t.Errorf("Days of none, %t: %d, %d, %t", journals == nil, from, to, ok)
			}
		}
	}
}

func TestP10_1Days(t *testing.T) {
	for _, d := range []day.Day{math.MinInt32, first - 1, first, -1, 0, 1, 58, last, last + 1, math.MaxInt32} {
		// The first one is the last one, too.
		holdDays(t, on(d), d, d, true)
		holdDays(t, on(d, d), d, d, true)
		for _, other := range []day.Day{math.MinInt32, first, -1, 0, 1, 31, last, math.MaxInt32} {
			holdDays(t, on(d, other), d, other, true)
			holdDays(t, on(d, 5, other), d, other, true)
			holdDays(t, on(d, -900, 900, 7, other), d, other, true)
			holdDays(t, Book{Journals: []entry.Journal{{Day: d}, {Day: other}}}, d, other, true)
		}
	}
	for _, n := range []int{1, 2, 3, 255, 256, 257, api.MaxJournals - 1, api.MaxJournals, api.MaxJournals + 1, 5000} {
		b := Book{Frame: frame()}
		for i := range n {
			b.Journals = append(b.Journals, sale(day.Day(i-7)))
		}
		holdDays(t, b, -7, day.Day(n-8), true)
	}
}

// What stands in spare room is no journal.
func TestP10_1DaysLookIntoNoSpareRoom(t *testing.T) {
	room := on(1, 2, 3, 4, 5)
	holdDays(t, Book{Journals: room.Journals[1:4]}, 2, 4, true)
	holdDays(t, Book{Journals: room.Journals[3:4]}, 4, 4, true)
	b := Book{Frame: frame(), Journals: room.Journals[1:2]}
	if from, to, ok := b.Days(); from != 2 || to != 2 || !ok {
		t.Errorf("Days of one with others behind it: %d, %d, %t", from, to, ok)
	}
}

// A book's parts, and Line, are those of its frame; its Check isn't the frame's.
func TestP10_1BookEmbedsItsFrame(t *testing.T) {
	b := on(60)
	if !slices.Equal(b.Chart, b.Frame.Chart) || !slices.Equal(b.Units, b.Frame.Units) || !calendar.Same(b.Calendar, b.Frame.Calendar) {
		t.Error("the parts aren't the frame's")
	}
	if b.Frame.Check() != api.OK || b.Check() != api.ErrDay {
		t.Errorf("Check of the frame: %d, of the book: %d", b.Frame.Check(), b.Check())
	}
	look := b.Line
	if look(sale(60).Lines[0]) != api.OK || look(entry.Line{Account: 11, Entity: 1, Amount: 1}) != api.ErrNone {
		t.Error("Line isn't the frame's")
	}
}

// jumble: a book that is hardly one that may be.
func jumble(r *rand.Rand) Book {
	b := Book{Frame: Frame{Calendar: calendar.Calendar{End: day.Day(r.Uint32())}}}
	for range r.Intn(300) {
		b.Chart = append(b.Chart, chart.Account{Code: r.Uint32() >> r.Intn(32), Name: "n", Kind: chart.Kind(r.Intn(7)), Parent: r.Uint32() >> r.Intn(32)})
		b.Units = append(b.Units, uint16(r.Uint32()))
		b.Calendar.Starts = append(b.Calendar.Starts, day.Day(r.Uint32()))
	}
	for range r.Intn(30) {
		j := entry.Journal{Day: day.Day(r.Uint32())}
		for range r.Intn(80) {
			j.Lines = append(j.Lines, entry.Line{Account: r.Uint32(), Entity: uint16(r.Uint32()), Counter: uint16(r.Uint32()), Amount: int64(r.Uint64())})
		}
		b.Journals = append(b.Journals, j)
	}
	return b
}

// ring: accounts that lie in one another, all round.
func ring(n int) chart.Chart {
	c := deep(n)
	c[0].Parent = uint32(n)
	return c
}

// P1: calls end, and none panics, of what may not be, too; and it stays as it was.
func TestP1CallsEnd(t *testing.T) {
	all := []Book{
		{}, {Journals: []entry.Journal{}}, {Journals: []entry.Journal{{}}}, {Journals: make([]entry.Journal, api.MaxJournals+1)},
		{Frame: frame(), Journals: make([]entry.Journal, 3)}, {Frame: Frame{Chart: ring(5), Calendar: even(1)}, Journals: []entry.Journal{sale(0)}},
		{Frame: Frame{Chart: ring(1), Units: make(unit.Units, 9), Calendar: calendar.Calendar{Starts: make([]day.Day, 100)}}},
		{Frame: Frame{Chart: make(chart.Chart, 100000), Units: make(unit.Units, 100000), Calendar: calendar.Calendar{Starts: make([]day.Day, 100000)}}, Journals: make([]entry.Journal, 100000)},
		of(entry.Journal{Day: 3, Lines: make([]entry.Line, 100000)}),
	}
	r := rand.New(rand.NewSource(1))
	for range 200 {
		all = append(all, jumble(r))
	}
	for _, b := range all {
		guarded, same := guard(b)
		guarded.Check()
		guarded.Frame.Check()
		guarded.Days()
		guarded.Line(entry.Line{})
		guarded.Frame.Line(entry.Line{Account: math.MaxUint32, Entity: math.MaxUint16, Counter: math.MaxUint16, Amount: math.MinInt64})
		Same(guarded, Book{})
		Same(Book{}, guarded)
		SameFrame(guarded.Frame, Frame{})
		SameFrame(Frame{}, guarded.Frame)
		if !Same(guarded, guarded) || !SameFrame(guarded.Frame, guarded.Frame) || !same() {
			t.Fatalf("%s changed", short(b))
		}
	}
}

// holdNow holds all calls of a book against what they must answer by now.
func holdNow(t *testing.T, b, other Book, framed, e api.Errno, line api.Errno, alike, sameFrame bool) {
	t.Helper()
	if b.Frame.Check() != framed || b.Check() != e || b.Line(entry.Line{Account: 20, Entity: 3, Counter: 5}) != line {
		t.Fatalf("Check of the frame: %d, of the book: %d", b.Frame.Check(), b.Check())
	}
	if Same(b, other) != alike || Same(other, b) != alike || SameFrame(b.Frame, other.Frame) != sameFrame || SameFrame(other.Frame, b.Frame) != sameFrame {
		t.Fatalf("Same: %t, SameFrame: %t", Same(b, other), SameFrame(b.Frame, other.Frame))
	}
	from, to, ok := b.Days()
	if from != b.Journals[0].Day || to != b.Journals[1].Day || !ok {
		t.Fatalf("Days: %d, %d, %t", from, to, ok)
	}
}

// R5, R6: nothing is kept: what is handed in may change later, and calls answer by what it is then.
func TestP2NothingIsKept(t *testing.T) {
	b, other := on(5, 40), on(5, 40)
	for range 3 {
		holdNow(t, b, other, api.OK, api.OK, api.OK, true, true)
		b.Journals[0].Day = 41
		holdNow(t, b, other, api.OK, api.ErrOrder, api.OK, false, true)
		b.Journals[0].Day, b.Journals[1].Day = 5, 59
		holdNow(t, b, other, api.OK, api.ErrDay, api.OK, false, true)
		b.Journals[1].Day = 40
		b.Journals[1].Lines[0].Counter = 4
		holdNow(t, b, other, api.OK, api.ErrNone, api.OK, false, true)
		b.Journals[1].Lines[0].Counter = 3
		b.Chart[1].Code = 21
		holdNow(t, b, other, api.OK, api.ErrNone, api.ErrNone, false, false)
		b.Chart[1].Code, b.Units[1] = 20, 2
		holdNow(t, b, other, api.OK, api.ErrNone, api.ErrNone, false, false)
		b.Units[1], b.Calendar.Starts[1] = 3, 0
		holdNow(t, b, other, api.ErrOrder, api.ErrOrder, api.OK, false, false)
		b.Calendar.Starts[1] = 31
	}
}
