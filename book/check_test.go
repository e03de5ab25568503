package book

import (
	"math"
	"math/rand"
	"slices"
	"testing"

	"transposal/api"
	"transposal/calendar"
	"transposal/chart"
	"transposal/day"
	"transposal/entry"
	"transposal/unit"
)

// holdCheck holds a book's Check against what it must be; the book stays as it was.
func holdCheck(t *testing.T, b Book, want api.Errno) {
	t.Helper()
	guarded, same := guard(b)
	if got := guarded.Check(); got != want {
		t.Errorf("Check of %s: %d, not %d", short(b), got, want)
	}
	if !same() {
		t.Errorf("Check of %s changed it", short(b))
	}
}

// filled: a book of n sales, on days that rise, so far as frame's periods let them; some share a day.
func filled(n int) Book {
	b := Book{Frame: frame()}
	for i := range n {
		b.Journals = append(b.Journals, sale(day.Day(i*59/n)))
	}
	return b
}

// with: a book, one of its journals another one.
func with(b Book, at int, change func(*entry.Journal)) Book {
	changed := cloned(b)
	change(&changed.Journals[at])
	return changed
}

// The chapter's example: a book without journals may be; its frame may not always.
func TestP10_1CheckOfNoJournals(t *testing.T) {
	room := on(100)
	for _, journals := range [][]entry.Journal{nil, {}, room.Journals[:0]} {
		for _, f := range []Frame{frame(), {Calendar: even(1)}, {Chart: chart.Chart{}, Units: unit.Units{}, Calendar: even(60)}, {Chart: flat(api.MaxAccounts), Units: rising(api.MaxUnits), Calendar: even(2)}} {
			if got := (Book{Frame: f, Journals: journals}).Check(); got != api.OK {
				t.Errorf("Check of no journals, %t, in %s: %d", journals == nil, short(f), got)
			}
		}
		if got := (Book{Journals: journals}).Check(); got != api.ErrSize {
			t.Errorf("Check of no journals, %t, and no period: %d", journals == nil, got)
		}
	}
}

func TestP10_1CheckMayBe(t *testing.T) {
	for _, n := range []int{1, 2, 3, 10, 59, 60, 61, 255, 256, 257, api.MaxJournals - 1, api.MaxJournals} {
		holdCheck(t, filled(n), api.OK)
		// All on one day.
		holdCheck(t, of(slices.Repeat([]entry.Journal{sale(40)}, n)...), api.OK)
	}
	// Each account, each entity, each Counter, its own one, too.
	j := entry.Journal{Day: 7}
	for _, account := range []uint32{10, 20, 30} {
		for _, entity := range []uint16{1, 3, 5} {
			for _, counter := range []uint16{0, 1, 3, 5} {
				lines := pair(account, entity, counter)
				holdCheck(t, of(entry.Journal{Day: 7, Lines: lines}), api.OK)
				if len(j.Lines) < api.MaxLines {
					j.Lines = append(j.Lines, lines...)
				}
			}
		}
	}
	if len(j.Lines) != api.MaxLines {
		t.Fatalf("%d lines", len(j.Lines))
	}
	holdCheck(t, of(j), api.OK)
	holdCheck(t, of(sale(7), j, j, sale(7), sale(8)), api.OK)
}

// As many journals as may be, each with as many lines, in a frame with as many parts.
func TestP10_1CheckOfTheGreatest(t *testing.T) {
	b := Book{Frame: Frame{Chart: flat(api.MaxAccounts), Units: rising(api.MaxUnits), Calendar: even(api.MaxPeriods)}}
	for i := range api.MaxJournals {
		j := entry.Journal{Day: day.Day(i * api.MaxPeriods / api.MaxJournals)}
		for k := range api.MaxLines / 2 {
			j.Lines = append(j.Lines, pair(uint32((i+k)%api.MaxAccounts+1), uint16(k+1), uint16(i%(api.MaxUnits+1)))...)
		}
		b.Journals = append(b.Journals, j)
	}
	holdCheck(t, b, api.OK)
	end := &b.Journals[api.MaxJournals-1]
	end.Lines[api.MaxLines-1].Counter = api.MaxUnits + 1
	holdCheck(t, b, api.ErrNone)
	end.Lines[api.MaxLines-1].Counter = 0
	end.Lines[api.MaxLines-1].Account = api.MaxAccounts + 1
	holdCheck(t, b, api.ErrNone)
	end.Lines[api.MaxLines-1].Account = 1
	holdCheck(t, b, api.OK)
}

// The frame's error, whichever it is, is ahead of all that is wrong with journals.
func TestP10_1CheckFrame(t *testing.T) {
	long := slices.Repeat([]entry.Journal{sale(5)}, api.MaxJournals+1)
	lists := [][]entry.Journal{nil, {}, {sale(5)}, {sale(-1)}, {{}}, {sale(6), sale(5)}, {{Day: first - 1}}, {{Day: 5, Lines: pair(11, 2, 4)}}, long, make([]entry.Journal, api.MaxJournals+1)}
	for _, journals := range lists {
		for _, x := range charts() {
			if x.e != api.OK {
				holdCheck(t, Book{Frame: Frame{x.c, frame().Units, frame().Calendar}, Journals: journals}, x.e)
			}
		}
		for _, x := range entities() {
			if x.e != api.OK {
				holdCheck(t, Book{Frame: Frame{frame().Chart, x.u, frame().Calendar}, Journals: journals}, x.e)
			}
		}
		for _, x := range calendars() {
			if x.e != api.OK {
				holdCheck(t, Book{Frame: Frame{frame().Chart, frame().Units, x.c}, Journals: journals}, x.e)
			}
		}
	}
}

// The chart's error is ahead of the entities', that ahead of the calendar's, in a book, too.
func TestP10_1CheckFrameOfMoreErrors(t *testing.T) {
	for _, c := range charts() {
		for _, u := range entities() {
			for _, p := range calendars() {
				if framed := (Frame{c.c, u.u, p.c}); framed.Check() != api.OK {
					holdCheck(t, Book{Frame: framed, Journals: []entry.Journal{sale(70), {}}}, framed.Check())
				}
			}
		}
	}
}

// ErrSize is ahead of all that is wrong with a journal.
func TestP10_1CheckSize(t *testing.T) {
	wrongs := []entry.Journal{{}, sale(-1), sale(59), sale(first - 1), {Day: 5}, {Day: 5, Lines: sale(5).Lines[:1]}, {Day: 5, Lines: pair(11, 1, 0)}, {Day: 5, Lines: make([]entry.Line, 61)}}
	for _, n := range []int{api.MaxJournals + 1, api.MaxJournals + 2, 2048, 2*api.MaxJournals + 1, 1 << 16, 1<<16 + 1, 1<<16 + api.MaxJournals} {
		b := filled(n)
		if got := b.Check(); got != api.ErrSize {
			t.Errorf("Check of %d journals: %d", n, got)
		}
		for _, j := range wrongs {
			for _, at := range []int{0, 1, api.MaxJournals - 1, api.MaxJournals, n - 1} {
				was := b.Journals[at]
				b.Journals[at] = j
				if got := b.Check(); got != api.ErrSize {
					t.Errorf("Check of %d journals, with %s: %d", n, short(j), got)
				}
				b.Journals[at] = was
			}
		}
	}
}

// The limit is on the number of journals, one more or one less of them.
func TestP10_1CheckSizeEdge(t *testing.T) {
	for n := api.MaxJournals - 3; n <= api.MaxJournals+3; n++ {
		holdCheck(t, filled(n), map[bool]api.Errno{true: api.OK, false: api.ErrSize}[n <= 2000])
	}
}

// flaws are journals that may not be, whatever the book is, each with its error.
func flaws() []struct {
	j entry.Journal
	e api.Errno
} {
	long := entry.Journal{Day: 5, Lines: slices.Concat(slices.Repeat(pair(10, 1, 0), 30), pair(10, 1, 0))}
	return []struct {
		j entry.Journal
		e api.Errno
	}{
		{sale(first - 1), api.ErrDay},
		{sale(last + 1), api.ErrDay},
		{sale(math.MinInt32), api.ErrDay},
		{sale(math.MaxInt32), api.ErrDay},
		{entry.Journal{Day: 5}, api.ErrSize},
		{entry.Journal{Day: 5, Lines: []entry.Line{}}, api.ErrSize},
		{long, api.ErrSize},
		{entry.Journal{Day: 5, Lines: []entry.Line{{Account: 10, Entity: 1}}}, api.ErrRange},
		{entry.Journal{Day: 5, Lines: []entry.Line{{Account: 10, Entity: 1, Amount: math.MinInt64}}}, api.ErrRange},
		{entry.Journal{Day: 5, Lines: sale(5).Lines[:1]}, api.ErrSum},
		{entry.Journal{Day: 5, Lines: []entry.Line{{Account: 10, Entity: 1, Amount: 5}, {Account: 10, Entity: 3, Amount: -5}}}, api.ErrSum},
	}
}

// A journal's own error, at each place.
func TestP10_1CheckJournals(t *testing.T) {
	for _, x := range flaws() {
		holdCheck(t, of(x.j), x.e)
		for _, n := range []int{2, 3, 9} {
			for at := range n {
				holdCheck(t, with(of(slices.Repeat([]entry.Journal{sale(5)}, n)...), at, func(j *entry.Journal) { *j = x.j }), x.e)
			}
		}
	}
	full := of(slices.Repeat([]entry.Journal{sale(5)}, api.MaxJournals)...)
	for _, x := range flaws() {
		for _, at := range []int{0, 1, 999, 1998, 1999} {
			holdCheck(t, with(full, at, func(j *entry.Journal) { *j = x.j }), x.e)
		}
	}
}

// Days that are the last journal's, one ahead of it, one behind it.
func TestP10_1CheckOrder(t *testing.T) {
	for d := day.Day(1); d < 58; d++ {
		holdCheck(t, on(d, d), api.OK)
		holdCheck(t, on(d, d+1), api.OK)
		holdCheck(t, on(d, d-1), api.ErrOrder)
		holdCheck(t, on(d, d, d-1), api.ErrOrder)
		// Behind the first one, and ahead of the last one.
		holdCheck(t, on(0, d, d-1), api.ErrOrder)
		holdCheck(t, on(0, 58, d), api.ErrOrder)
		holdCheck(t, on(58, d, 58), api.ErrOrder)
		holdCheck(t, on(0, d, 58), api.OK)
		holdCheck(t, on(0, d, d, d+1, 58, 58), api.OK)
	}
	// At each place of a book.
	days := []day.Day{3, 9, 20, 30, 31, 45, 58}
	holdCheck(t, on(days...), api.OK)
	for at := 1; at < len(days); at++ {
		for d := day.Day(0); d < 59; d++ {
			changed := slices.Clone(days)
			changed[at] = d
			want := map[bool]api.Errno{true: api.OK, false: api.ErrOrder}[slices.IsSorted(changed)]
			holdCheck(t, on(changed...), want)
		}
	}
	for _, at := range []int{1, 999, 1998, 1999} {
		full := of(slices.Repeat([]entry.Journal{sale(31)}, api.MaxJournals)...)
		holdCheck(t, with(full, at, func(j *entry.Journal) { j.Day = 30 }), api.ErrOrder)
	}
}

// Days ahead of 1970, too: the first journal has none ahead that it could be ahead of.
func TestP10_1CheckOrderFromTheFirstDay(t *testing.T) {
	whole := Frame{Chart: frame().Chart, Units: frame().Units, Calendar: calendar.Calendar{Starts: []day.Day{first}, End: last}}
	for _, d := range []day.Day{first, first + 1, -65536, -256, -2, -1, 0, 1, 256, 65536, last - 2} {
		for _, x := range []struct {
			days []day.Day
			want api.Errno
		}{
			{[]day.Day{d}, api.OK},
			{[]day.Day{d, d}, api.OK},
			{[]day.Day{d, d + 1}, api.OK},
			{[]day.Day{d + 1, d}, api.ErrOrder},
			{[]day.Day{first, d, last - 1}, api.OK},
			{[]day.Day{last - 1, d}, api.ErrOrder},
			{[]day.Day{d + 1, first}, api.ErrOrder},
		} {
			b := on(x.days...)
			b.Frame = whole
			holdCheck(t, b, x.want)
		}
	}
}

// The first and the last day of a calendar, and the days beside them.
func TestP10_1CheckDay(t *testing.T) {
	for _, c := range []calendar.Calendar{
		frame().Calendar, even(1), even(2), even(api.MaxPeriods),
		{Starts: []day.Day{-20, -10, 0, 10}, End: 20}, {Starts: []day.Day{5}, End: 6}, {Starts: []day.Day{-6}, End: -5},
		{Starts: []day.Day{first, first + 3}, End: first + 9}, {Starts: []day.Day{last - 9, last - 3}, End: last},
	} {
		f := Frame{Chart: frame().Chart, Units: frame().Units, Calendar: c}
		from, end := c.Starts[0], c.End
		for d := max(from-3, first); d <= min(end+3, last); d++ {
			want := map[bool]api.Errno{true: api.OK, false: api.ErrDay}[from <= d && d < end]
			holdCheck(t, Book{Frame: f, Journals: []entry.Journal{sale(d)}}, want)
			holdCheck(t, Book{Frame: f, Journals: []entry.Journal{sale(d), sale(d)}}, want)
		}
		// The last journal alone is behind all periods.
		if end < last {
			holdCheck(t, Book{Frame: f, Journals: []entry.Journal{sale(from), sale(end - 1), sale(end)}}, api.ErrDay)
		}
		// The first one alone is ahead of all of them.
		if from > first {
			holdCheck(t, Book{Frame: f, Journals: []entry.Journal{sale(from - 1), sale(from), sale(end - 1)}}, api.ErrDay)
		}
	}
	for _, at := range []int{999, 1999} {
		full := of(slices.Repeat([]entry.Journal{sale(31)}, at+1)...)
		holdCheck(t, with(full, at, func(j *entry.Journal) { j.Day = 59 }), api.ErrDay)
	}
}

// A line of what isn't there, at each place of a journal, at each place of a book.
func TestP10_1CheckLines(t *testing.T) {
	whole := entry.Journal{Day: 7, Lines: slices.Repeat(pair(10, 1, 3), 3)}
	for n := 1; n < 4; n++ {
		b := of(slices.Repeat([]entry.Journal{whole}, n)...)
		holdCheck(t, b, api.OK)
		for at := range n {
			for i := range whole.Lines {
				for _, change := range []func(*entry.Line){
					func(l *entry.Line) { l.Account = 0 },
					func(l *entry.Line) { l.Account = 11 },
					func(l *entry.Line) { l.Account = 1 },
					func(l *entry.Line) { l.Account = math.MaxUint32 },
					func(l *entry.Line) { l.Counter = 2 },
					func(l *entry.Line) { l.Counter = 10 },
					func(l *entry.Line) { l.Counter = math.MaxUint16 },
				} {
					holdCheck(t, with(b, at, func(j *entry.Journal) { change(&j.Lines[i]) }), api.ErrNone)
				}
				for _, change := range []func(*entry.Line){
					func(l *entry.Line) { l.Account = 20 },
					func(l *entry.Line) { l.Counter = 0 },
					func(l *entry.Line) { l.Counter = 1 },
					func(l *entry.Line) { l.Counter = 5 },
				} {
					holdCheck(t, with(b, at, func(j *entry.Journal) { change(&j.Lines[i]) }), api.OK)
				}
				// Of another entity two lines are needed: else sums are wrong.
				for _, entity := range []uint16{0, 2, 6, 10, math.MaxUint16} {
					holdCheck(t, with(b, at, func(j *entry.Journal) { j.Lines = slices.Insert(j.Lines, i, pair(10, entity, 0)...) }), api.ErrNone)
				}
				holdCheck(t, with(b, at, func(j *entry.Journal) { j.Lines = slices.Insert(j.Lines, i, pair(10, 5, 0)...) }), api.OK)
			}
		}
	}
}

// Without accounts, or without entities, no journal may be in a book.
func TestP10_1CheckLinesInEmptyFrames(t *testing.T) {
	for _, accounts := range []chart.Chart{nil, {}, frame().Chart} {
		for _, units := range []unit.Units{nil, {}, frame().Units} {
			want := map[bool]api.Errno{true: api.OK, false: api.ErrNone}[len(accounts) > 0 && len(units) > 0]
			holdCheck(t, Book{Frame: Frame{accounts, units, frame().Calendar}, Journals: []entry.Journal{sale(5)}}, want)
		}
	}
}

// The things that are wrong with a journal, a bit each, in the order in which they are told.
const (
	noDay = 1 << iota
	long
	void
	odd
	early
	outside
	account
	entity
	counter
	wrongs
)

// spoilt: a journal behind one of day 31, with these things wrong, and the error that must be told.
func spoilt(which int) (entry.Journal, api.Errno) {
	j := entry.Journal{Day: 31}
	switch {
	case which&(noDay|early) == noDay:
		j.Day = last + 1
	case which&noDay > 0:
		j.Day = first - 1
	case which&(early|outside) == early|outside:
		j.Day = -1
	case which&early > 0:
		j.Day = 30
	case which&outside > 0:
		j.Day = 59
	}
	// What isn't there stands first, so that it would be seen ahead of what is wrong with lines behind it.
	if which&account > 0 {
		j.Lines = append(j.Lines, pair(11, 1, 0)...)
	}
	if which&entity > 0 {
		j.Lines = append(j.Lines, pair(10, 2, 0)...)
	}
	if which&counter > 0 {
		j.Lines = append(j.Lines, pair(10, 1, 4)...)
	}
	j.Lines = append(j.Lines, sale(31).Lines...)
	if which&odd > 0 {
		j.Lines = append(j.Lines, entry.Line{Account: 10, Entity: 1, Amount: 7})
	}
	if which&void > 0 {
		j.Lines = append(j.Lines, entry.Line{Account: 10, Entity: 1})
	}
	for which&long > 0 && len(j.Lines) <= api.MaxLines {
		j.Lines = append(j.Lines, pair(10, 1, 0)...)
	}
	errors := [...]api.Errno{api.ErrDay, api.ErrSize, api.ErrRange, api.ErrSum, api.ErrOrder, api.ErrDay, api.ErrNone, api.ErrNone, api.ErrNone}
	for bit, e := range errors {
		if which>>bit&1 == 1 {
			return j, e
		}
	}
	return j, api.OK
}

// All that can be wrong with one journal, behind one that may be.
func TestP10_1CheckOrderOfErrorsOfOne(t *testing.T) {
	seen := map[api.Errno]int{}
	for which := range int(wrongs) {
		j, want := spoilt(which)
		seen[want]++
		holdCheck(t, of(sale(31), j), want)
		holdCheck(t, of(sale(0), sale(31), j, sale(58)), want)
		// Alone it has none ahead.
		if which&early == 0 {
			holdCheck(t, of(j), want)
		}
	}
	if len(seen) != 7 {
		t.Errorf("the journals have errors %v", seen)
	}
}

// All that can be wrong with two journals: the first one's error, whole, is ahead of the next one's.
func TestP10_1CheckOrderOfErrorsOfTwo(t *testing.T) {
	for which := range int(wrongs) {
		one, e := spoilt(which)
		for other := range int(wrongs) {
			next, want := spoilt(other)
			if e != api.OK {
				want = e
			}
			if got := of(sale(31), one, next).Check(); got != want {
				t.Fatalf("Check of %b, then %b: %d, not %d", which, other, got, want)
			}
		}
	}
}

// A journal that may not be has its error, whatever is wrong with what is behind it.
func TestP10_1CheckFirstOfTwo(t *testing.T) {
	for _, x := range flaws() {
		for _, y := range flaws() {
			holdCheck(t, of(x.j, y.j), x.e)
			holdCheck(t, of(sale(5), x.j, y.j), x.e)
		}
		holdCheck(t, of(sale(59), x.j), api.ErrDay)
		holdCheck(t, of(sale(-1), x.j), api.ErrDay)
		holdCheck(t, of(sale(6), sale(5), x.j), api.ErrOrder)
		holdCheck(t, of(entry.Journal{Day: 5, Lines: pair(11, 1, 0)}, x.j), api.ErrNone)
		holdCheck(t, of(x.j, entry.Journal{Day: 5, Lines: pair(11, 1, 0)}), x.e)
	}
	holdCheck(t, of(entry.Journal{Day: 5, Lines: pair(11, 1, 0)}, sale(4)), api.ErrNone)
	holdCheck(t, of(entry.Journal{Day: 5, Lines: pair(11, 1, 0)}, sale(59)), api.ErrNone)
	holdCheck(t, of(sale(59), entry.Journal{Day: 60, Lines: pair(11, 1, 0)}), api.ErrDay)
	// Of no period, but behind the last one's, which is in none either: that is told.
	holdCheck(t, of(sale(-1), sale(-2)), api.ErrDay)
	holdCheck(t, of(sale(61), sale(60)), api.ErrDay)
	// Ahead of the last one, and in no period.
	holdCheck(t, of(sale(0), sale(-1)), api.ErrOrder)
}

// fault is an error of a book: of which journal (-1: of none), and how early the chapter names it.
type fault struct {
	journal, rank int
	e             api.Errno
}

// within: is a day in one of a calendar's periods, looked for among the days of each?
func within(c calendar.Calendar, d day.Day) bool {
	for at, from := range c.Starts {
		behind := c.End
		if at+1 < len(c.Starts) {
			behind = c.Starts[at+1]
		}
		if from <= d && d < behind {
			return true
		}
	}
	return false
}

// faults: all errors that a book has.
func faults(b Book) []fault {
	l := []fault{
		{-1, 0, b.Chart.Check()},
		{-1, 1, b.Units.Check()},
		{-1, 2, b.Calendar.Check()},
	}
	if len(b.Journals) > 2000 {
		l = append(l, fault{-1, 3, api.ErrSize})
	}
	accounts, units := map[uint32]int{}, map[uint16]int{0: 0}
	for _, a := range b.Chart {
		accounts[a.Code]++
	}
	for _, n := range b.Units {
		units[n]++
	}
	for at, j := range b.Journals {
		l = append(l, fault{at, 0, j.Check()})
		if at > 0 && b.Journals[at-1].Day > j.Day {
			l = append(l, fault{at, 1, api.ErrOrder})
		}
		if !within(b.Calendar, j.Day) {
			l = append(l, fault{at, 2, api.ErrDay})
		}
		for _, line := range j.Lines {
			_, known := units[line.Counter]
			if accounts[line.Account] == 0 || units[line.Entity] == 0 || !known {
				l = append(l, fault{at, 3, api.ErrNone})
			}
		}
	}
	return slices.DeleteFunc(l, func(x fault) bool { return x.e == api.OK })
}

// told: what Check must tell: of all errors the one of the first journal that has any, and of these the one that is named first.
func told(b Book) api.Errno {
	all := faults(b)
	if len(all) == 0 {
		return api.OK
	}
	return slices.MinFunc(all, func(x, y fault) int {
		if x.journal != y.journal {
			return x.journal - y.journal
		}
		return x.rank - y.rank
	}).e
}

// chance: a book of a few journals, with few things wrong.
func chance(r *rand.Rand) Book {
	b := Book{Frame: frame()}
	if r.Intn(12) == 0 {
		b.Chart = charts()[r.Intn(len(charts()))].c
	}
	if r.Intn(12) == 0 {
		b.Units = entities()[r.Intn(len(entities()))].u
	}
	if r.Intn(12) == 0 {
		b.Calendar = calendars()[r.Intn(len(calendars()))].c
	}
	days := []day.Day{first - 1, first, -1, 0, 1, 30, 31, 58, 59, last}
	d := day.Day(r.Intn(20))
	for range r.Intn(5) {
		d += day.Day(r.Intn(10))
		j := entry.Journal{Day: d}
		if r.Intn(12) == 0 {
			j.Day = days[r.Intn(len(days))]
		}
		for range 1 + r.Intn(3) {
			j.Lines = append(j.Lines, pair(uint32(1+r.Intn(3))*10, uint16(1+2*r.Intn(3)), []uint16{0, 1, 3, 5}[r.Intn(4)])...)
		}
		if r.Intn(4) == 0 {
			l := &j.Lines[r.Intn(len(j.Lines))]
			[]func(){func() { l.Account++ }, func() { l.Entity = 2 }, func() { l.Counter++ }, func() { l.Amount *= int64(r.Intn(3)) }, func() { j.Lines = nil }}[r.Intn(5)]()
		}
		b.Journals = append(b.Journals, j)
	}
	return b
}

// Books by chance, held against all their errors, gathered in another way.
func TestP10_1CheckByChance(t *testing.T) {
	seen := map[api.Errno]int{}
	r := rand.New(rand.NewSource(10))
	for range 40000 {
		b := chance(r)
		want := told(b)
		seen[want]++
		if got := b.Check(); got != want {
			t.Fatalf("Check of %s: %d, not %d", short(b), got, want)
		}
	}
	for _, e := range []api.Errno{api.OK, api.ErrSize, api.ErrRange, api.ErrOrder, api.ErrNone, api.ErrKind, api.ErrName, api.ErrDeep, api.ErrDay, api.ErrSum} {
		if seen[e] < 20 {
			t.Errorf("the books have errors %v", seen)
		}
	}
}

// All books of up to three journals on some days.
func TestP10_1CheckEachDays(t *testing.T) {
	days := []day.Day{first - 1, first, -1, 0, 30, 31, 58, 59, last, last + 1}
	for _, one := range days {
		holdCheck(t, on(one), told(on(one)))
		for _, two := range days {
			holdCheck(t, on(one, two), told(on(one, two)))
			for _, three := range days {
				holdCheck(t, on(one, two, three), told(on(one, two, three)))
			}
		}
	}
}
