package rule

import (
	"fmt"
	"slices"
	"strings"
	"testing"

	"transposal/api"
	"transposal/book"
	"transposal/calendar"
	"transposal/chart"
	"transposal/day"
	"transposal/entry"
	"transposal/script"
	"transposal/unit"
)

// accounts: written one by one, with a semicolon between: code, name (~ is a blank), kind's letter, Parent.
func accounts(s string) chart.Chart {
	var c chart.Chart
	for _, one := range strings.Split(s, ";") {
		var a chart.Account
		var letter string
		if _, e := fmt.Sscan(one, &a.Code, &a.Name, &letter, &a.Parent); e != nil {
			panic(one)
		}
		a.Name = strings.ReplaceAll(a.Name, "~", " ")
		a.Kind = chart.Kind(strings.Index("ALQIE", letter))
		c = append(c, a)
	}
	return c
}

// What most tests are about: assets and income, two deep and three deep; a debt alone.
const plain = "5 Assets A 0; 10 Cash A 5; 20 Bank A 5; 30 Giro A 20; 40 Sales I 0; 50 Shops I 40; 60 Debts L 0"

// frame: a new one with these accounts, three entities, two months.
func frame() book.Frame {
	return book.Frame{Chart: accounts(plain), Units: unit.Units{1, 3, 5}, Calendar: months()}
}

// months: January and February of 1970.
func months() calendar.Calendar {
	return calendar.Calendar{Starts: []day.Day{0, 31}, End: 59}
}

// span: journals from the first to the last day of months.
func span() Span {
	return Span{First: 0, Last: 58, Some: true}
}

// roomy: a list with marks in its spare room; what is called tells whether it, and they, are as they were.
func roomy[T comparable](l []T, mark T) ([]T, func() bool) {
	if l == nil {
		return nil, func() bool { return true }
	}
	room := append(slices.Clone(l), mark, mark, mark)
	were := slices.Clone(room)
	return room[:len(l)], func() bool { return slices.Equal(room, were) }
}

// guardFrame: a frame with marks in all spare rooms.
func guardFrame(f book.Frame) (book.Frame, func() bool) {
	c, sameChart := roomy(f.Chart, chart.Account{Code: 77777, Name: "mark", Kind: chart.Expense, Parent: 88888})
	u, sameUnits := roomy(f.Units, 777)
	starts, sameStarts := roomy(f.Calendar.Starts, 7777)
	guarded := book.Frame{Chart: c, Units: u, Calendar: calendar.Calendar{Starts: starts, End: f.Calendar.End}}
	return guarded, func() bool { return sameChart() && sameUnits() && sameStarts() }
}

// guardOp: an op with marks in all spare rooms.
func guardOp(o script.Op) (script.Op, func() bool) {
	parts, sameParts := roomy(o.Parts, script.Part{Code: 77777, Weight: 777})
	starts, sameStarts := roomy(o.Calendar.Starts, 7777)
	o.Parts, o.Calendar.Starts = parts, starts
	return o, func() bool { return sameParts() && sameStarts() }
}

// guardOps: ops with marks in all spare rooms, behind the last of them, too.
func guardOps(l []script.Op) ([]script.Op, func() bool) {
	var looks []func() bool
	room := make([]script.Op, 0, len(l)+2)
	for _, o := range l {
		guarded, same := guardOp(o)
		room, looks = append(room, guarded), append(looks, same)
	}
	room = append(room, script.Op{Kind: script.Join, From: 7, To: 77}, script.Op{Kind: -7, Name: "mark"})
	were := slices.Clone(room)
	return room[:len(l)], func() bool {
		return script.Same(room, were) && !slices.ContainsFunc(looks, func(look func() bool) bool { return !look() })
	}
}

// nothing: is a frame its zero value, but that a list may be empty?
func nothing(f book.Frame) bool {
	return book.SameFrame(f, book.Frame{})
}

// hold holds Next, and All of the op alone, against the frame or the error; the frame and the op stay as they were.
func hold(t *testing.T, f book.Frame, s Span, o script.Op, want book.Frame, e api.Errno) {
	t.Helper()
	if e != api.OK {
		want = book.Frame{}
	}
	guarded, sameFrame := guardFrame(f)
	op, sameOp := guardOp(o)
	for range 2 {
		if got, ge := Next(guarded, s, op); ge != e || !book.SameFrame(got, want) {
			t.Errorf("Next of %s, %v, %v: %s, %d; not %s, %d", short(f), s, o, short(got), ge, short(want), e)
		} else if ge == api.OK && got.Check() != api.OK {
			t.Errorf("Next of %s, %v, %v: a frame that may not be: %s", short(f), s, o, short(got))
		}
		if got, at, ge := All(guarded, s, []script.Op{op}); ge != e || at != 0 || !book.SameFrame(got, want) {
			t.Errorf("All of %s, %v, %v: %s, %d, %d; not %s, %d", short(f), s, o, short(got), at, ge, short(want), e)
		}
	}
	if !sameFrame() || !sameOp() {
		t.Errorf("Next of %s, %v, %v changed them", short(f), s, o)
	}
}

// holdChart holds Next of the plain frame against the accounts that come out; all else stays as it was.
func holdChart(t *testing.T, o script.Op, want string) {
	t.Helper()
	f := frame()
	f.Chart = accounts(want)
	hold(t, frame(), span(), o, f, api.OK)
	hold(t, frame(), Span{}, o, f, api.OK)
}

// holdUnits holds Next of the plain frame against the entities that come out; all else stays as it was.
func holdUnits(t *testing.T, o script.Op, want ...uint16) {
	t.Helper()
	f := frame()
	f.Units = want
	hold(t, frame(), span(), o, f, api.OK)
	hold(t, frame(), Span{}, o, f, api.OK)
}

// holdWrong holds Next of the plain frame against an error.
func holdWrong(t *testing.T, o script.Op, e api.Errno) {
	t.Helper()
	hold(t, frame(), span(), o, book.Frame{}, e)
	hold(t, frame(), Span{}, o, book.Frame{}, e)
}

// short: a frame, as far as a failing test tells of it.
func short(x any) string {
	return fmt.Sprintf("%.600s", fmt.Sprint(x))
}

// op: one of two numbers.
func op(k script.Kind, from, to uint32) script.Op {
	return script.Op{Kind: k, From: from, To: to}
}

// renames: one to a name.
func renames(from uint32, name string) script.Op {
	return script.Op{Kind: script.Rename, From: from, Name: name}
}

// splits: one into parts: codes and weights by turns.
func splits(from uint32, l ...int64) script.Op {
	o := script.Op{Kind: script.Split, From: from}
	for at := 0; at < len(l); at += 2 {
		o.Parts = append(o.Parts, script.Part{Code: uint32(l[at]), Weight: l[at+1]})
	}
	return o
}

// periods: one to a calendar: its starts, and behind them its end.
func periods(days ...day.Day) script.Op {
	last := len(days) - 1
	return script.Op{Kind: script.Periods, Calendar: calendar.Calendar{Starts: days[:last], End: days[last]}}
}

// The chapter's example.
func TestP15_1Example(t *testing.T) {
	holdWrong(t, op(script.Renumber, 11, 12), api.ErrNone)
	hold(t, book.Frame{Calendar: months()}, Span{}, op(script.Renumber, 1, 2), book.Frame{}, api.ErrNone)
}

// The document's example through the whole: merge 3 into 2; renumber 1 to 9; split 9 into 10 2, 11 1.
func TestP15_1ExampleOfTheWhole(t *testing.T) {
	f := book.Frame{Chart: accounts("1 One A 0; 2 Two A 0; 3 Three A 0"), Units: unit.Units{1}, Calendar: calendar.Calendar{Starts: []day.Day{0}, End: 1}}
	want := f
	want.Chart = accounts("2 Two A 0; 10 One A 0; 11 One A 0")
	got, at, e := All(f, Span{Some: true}, []script.Op{op(script.Merge, 3, 2), op(script.Renumber, 1, 9), splits(9, 10, 2, 11, 1)})
	if e != api.OK || at != 0 || !book.SameFrame(got, want) {
		t.Errorf("All: %v %d %d", got, at, e)
	}
}

func TestP15_1Of(t *testing.T) {
	on := func(days ...day.Day) book.Book {
		b := book.Book{Frame: frame()}
		for _, d := range days {
			b.Journals = append(b.Journals, entry.Journal{Day: d, Lines: []entry.Line{{Account: 10, Entity: 1, Amount: 5}, {Account: 20, Entity: 1, Amount: -5}}})
		}
		return b
	}
	for _, x := range []struct {
		b    book.Book
		want Span
	}{
		{book.Book{}, Span{}},
		{on(), Span{}},
		{book.Book{Journals: []entry.Journal{}}, Span{}},
		{book.Book{Journals: on(7).Journals[:0]}, Span{}},
		{on(0), Span{0, 0, true}},
		{on(7), Span{7, 7, true}},
		{on(-719162), Span{-719162, -719162, true}},
		{on(7, 7), Span{7, 7, true}},
		{on(7, 8), Span{7, 8, true}},
		{on(-5, 0, 58), Span{-5, 58, true}},
		{on(0, 3, 3, 4, 9, 31), Span{0, 31, true}},
		{on(-719162, 2932896), Span{-719162, 2932896, true}},
	} {
		if got := Of(x.b); got != x.want {
			t.Errorf("Of: %v, not %v", got, x.want)
		}
		first, last, some := x.b.Days()
		if want := (Span{first, last, some}); Of(x.b) != want {
			t.Errorf("Of: %v, Days: %v", Of(x.b), want)
		}
	}
	b := on(1, 2, 3)
	guarded, same := guardFrame(b.Frame)
	b.Frame = guarded
	if Of(b) != (Span{1, 3, true}) || !same() || !slices.EqualFunc(b.Journals, on(1, 2, 3).Journals, entry.Same) {
		t.Errorf("Of: %v, or the book was changed", Of(b))
	}
}

// What lies in an account lies in it still, wherever its new code stands.
func TestP15_1Renumber(t *testing.T) {
	for _, x := range []struct {
		from, to uint32
		want     string
	}{
		// One in which nothing lies: to the beginning, the end, another place, a place beside its own.
		{10, 1, "1 Cash A 5; 5 Assets A 0; 20 Bank A 5; 30 Giro A 20; 40 Sales I 0; 50 Shops I 40; 60 Debts L 0"},
		{10, 999999, "5 Assets A 0; 20 Bank A 5; 30 Giro A 20; 40 Sales I 0; 50 Shops I 40; 60 Debts L 0; 999999 Cash A 5"},
		{10, 45, "5 Assets A 0; 20 Bank A 5; 30 Giro A 20; 40 Sales I 0; 45 Cash A 5; 50 Shops I 40; 60 Debts L 0"},
		{10, 9, "5 Assets A 0; 9 Cash A 5; 20 Bank A 5; 30 Giro A 20; 40 Sales I 0; 50 Shops I 40; 60 Debts L 0"},
		{10, 11, "5 Assets A 0; 11 Cash A 5; 20 Bank A 5; 30 Giro A 20; 40 Sales I 0; 50 Shops I 40; 60 Debts L 0"},
		{30, 19, "5 Assets A 0; 10 Cash A 5; 19 Giro A 20; 20 Bank A 5; 40 Sales I 0; 50 Shops I 40; 60 Debts L 0"},
		{60, 59, "5 Assets A 0; 10 Cash A 5; 20 Bank A 5; 30 Giro A 20; 40 Sales I 0; 50 Shops I 40; 59 Debts L 0"},
		// A top one in which others lie.
		{5, 4, "4 Assets A 0; 10 Cash A 4; 20 Bank A 4; 30 Giro A 20; 40 Sales I 0; 50 Shops I 40; 60 Debts L 0"},
		{5, 15, "10 Cash A 15; 15 Assets A 0; 20 Bank A 15; 30 Giro A 20; 40 Sales I 0; 50 Shops I 40; 60 Debts L 0"},
		{5, 25, "10 Cash A 25; 20 Bank A 25; 25 Assets A 0; 30 Giro A 20; 40 Sales I 0; 50 Shops I 40; 60 Debts L 0"},
		{5, 999999, "10 Cash A 999999; 20 Bank A 999999; 30 Giro A 20; 40 Sales I 0; 50 Shops I 40; 60 Debts L 0; 999999 Assets A 0"},
		{40, 1, "1 Sales I 0; 5 Assets A 0; 10 Cash A 5; 20 Bank A 5; 30 Giro A 20; 50 Shops I 1; 60 Debts L 0"},
		// One that lies in another one, with one in it.
		{20, 7, "5 Assets A 0; 7 Bank A 5; 10 Cash A 5; 30 Giro A 7; 40 Sales I 0; 50 Shops I 40; 60 Debts L 0"},
		{20, 35, "5 Assets A 0; 10 Cash A 5; 30 Giro A 35; 35 Bank A 5; 40 Sales I 0; 50 Shops I 40; 60 Debts L 0"},
	} {
		holdChart(t, op(script.Renumber, x.from, x.to), x.want)
	}
	// The one account there is.
	f := frame()
	f.Chart = accounts("7 One Q 0")
	want := frame()
	want.Chart = accounts("8 One Q 0")
	hold(t, f, span(), op(script.Renumber, 7, 8), want, api.OK)
}

func TestP15_1Rename(t *testing.T) {
	for _, x := range []struct {
		from       uint32
		name, want string
	}{
		{5, "All", "5 All A 0; 10 Cash A 5; 20 Bank A 5; 30 Giro A 20; 40 Sales I 0; 50 Shops I 40; 60 Debts L 0"},
		{20, "Big Bank", "5 Assets A 0; 10 Cash A 5; 20 Big~Bank A 5; 30 Giro A 20; 40 Sales I 0; 50 Shops I 40; 60 Debts L 0"},
		{30, ".", "5 Assets A 0; 10 Cash A 5; 20 Bank A 5; 30 . A 20; 40 Sales I 0; 50 Shops I 40; 60 Debts L 0"},
		{60, "9", "5 Assets A 0; 10 Cash A 5; 20 Bank A 5; 30 Giro A 20; 40 Sales I 0; 50 Shops I 40; 60 9 L 0"},
		{60, strings.Repeat("z", 30), "5 Assets A 0; 10 Cash A 5; 20 Bank A 5; 30 Giro A 20; 40 Sales I 0; 50 Shops I 40; 60 zzzzzzzzzzzzzzzzzzzzzzzzzzzzzz L 0"},
		// The name that it has, or that another one has.
		{10, "Cash", plain},
		{10, "Bank", "5 Assets A 0; 10 Bank A 5; 20 Bank A 5; 30 Giro A 20; 40 Sales I 0; 50 Shops I 40; 60 Debts L 0"},
	} {
		holdChart(t, renames(x.from, x.name), x.want)
	}
}

func TestP15_1Reparent(t *testing.T) {
	for _, x := range []struct {
		from, to uint32
		want     string
	}{
		// To the top, where it lay already or not.
		{5, 0, plain},
		{10, 0, "5 Assets A 0; 10 Cash A 0; 20 Bank A 5; 30 Giro A 20; 40 Sales I 0; 50 Shops I 40; 60 Debts L 0"},
		{20, 0, "5 Assets A 0; 10 Cash A 5; 20 Bank A 0; 30 Giro A 20; 40 Sales I 0; 50 Shops I 40; 60 Debts L 0"},
		// Where it lies already, deeper, less deep.
		{10, 5, plain},
		{10, 20, "5 Assets A 0; 10 Cash A 20; 20 Bank A 5; 30 Giro A 20; 40 Sales I 0; 50 Shops I 40; 60 Debts L 0"},
		{10, 30, "5 Assets A 0; 10 Cash A 30; 20 Bank A 5; 30 Giro A 20; 40 Sales I 0; 50 Shops I 40; 60 Debts L 0"},
		{30, 5, "5 Assets A 0; 10 Cash A 5; 20 Bank A 5; 30 Giro A 5; 40 Sales I 0; 50 Shops I 40; 60 Debts L 0"},
		// With what lies in it.
		{20, 10, "5 Assets A 0; 10 Cash A 5; 20 Bank A 10; 30 Giro A 20; 40 Sales I 0; 50 Shops I 40; 60 Debts L 0"},
	} {
		holdChart(t, op(script.Reparent, x.from, x.to), x.want)
	}
}

func TestP15_1Merge(t *testing.T) {
	for _, x := range []struct {
		from, to uint32
		want     string
	}{
		{10, 20, "5 Assets A 0; 20 Bank A 5; 30 Giro A 20; 40 Sales I 0; 50 Shops I 40; 60 Debts L 0"},
		{10, 5, "5 Assets A 0; 20 Bank A 5; 30 Giro A 20; 40 Sales I 0; 50 Shops I 40; 60 Debts L 0"},
		{10, 30, "5 Assets A 0; 20 Bank A 5; 30 Giro A 20; 40 Sales I 0; 50 Shops I 40; 60 Debts L 0"},
		{30, 20, "5 Assets A 0; 10 Cash A 5; 20 Bank A 5; 40 Sales I 0; 50 Shops I 40; 60 Debts L 0"},
		{30, 5, "5 Assets A 0; 10 Cash A 5; 20 Bank A 5; 40 Sales I 0; 50 Shops I 40; 60 Debts L 0"},
		{50, 40, "5 Assets A 0; 10 Cash A 5; 20 Bank A 5; 30 Giro A 20; 40 Sales I 0; 60 Debts L 0"},
	} {
		holdChart(t, op(script.Merge, x.from, x.to), x.want)
	}
}

// Each part has the name, the kind and the Parent of what was divided.
func TestP15_1Split(t *testing.T) {
	for _, x := range []struct {
		o    script.Op
		want string
	}{
		{splits(10, 11, 1), "5 Assets A 0; 11 Cash A 5; 20 Bank A 5; 30 Giro A 20; 40 Sales I 0; 50 Shops I 40; 60 Debts L 0"},
		{splits(10, 9, 1000000, 11, 1), "5 Assets A 0; 9 Cash A 5; 11 Cash A 5; 20 Bank A 5; 30 Giro A 20; 40 Sales I 0; 50 Shops I 40; 60 Debts L 0"},
		{splits(10, 999999, 3, 1, 3), "1 Cash A 5; 5 Assets A 0; 20 Bank A 5; 30 Giro A 20; 40 Sales I 0; 50 Shops I 40; 60 Debts L 0; 999999 Cash A 5"},
		{splits(30, 35, 1, 15, 2, 45, 3), "5 Assets A 0; 10 Cash A 5; 15 Giro A 20; 20 Bank A 5; 35 Giro A 20; 40 Sales I 0; 45 Giro A 20; 50 Shops I 40; 60 Debts L 0"},
		{splits(50, 51, 1), "5 Assets A 0; 10 Cash A 5; 20 Bank A 5; 30 Giro A 20; 40 Sales I 0; 51 Shops I 40; 60 Debts L 0"},
		{splits(60, 68, 8, 67, 7, 66, 6, 65, 5, 64, 4, 63, 3, 62, 2, 61, 1), "5 Assets A 0; 10 Cash A 5; 20 Bank A 5; 30 Giro A 20; 40 Sales I 0; 50 Shops I 40; 61 Debts L 0; 62 Debts L 0; 63 Debts L 0; 64 Debts L 0; 65 Debts L 0; 66 Debts L 0; 67 Debts L 0; 68 Debts L 0"},
	} {
		holdChart(t, x.o, x.want)
	}
}

func TestP15_1Recode(t *testing.T) {
	holdUnits(t, op(script.Recode, 1, 2), 2, 3, 5)
	holdUnits(t, op(script.Recode, 1, 4), 3, 4, 5)
	holdUnits(t, op(script.Recode, 1, 999), 3, 5, 999)
	holdUnits(t, op(script.Recode, 3, 2), 1, 2, 5)
	holdUnits(t, op(script.Recode, 3, 4), 1, 4, 5)
	holdUnits(t, op(script.Recode, 3, 6), 1, 5, 6)
	holdUnits(t, op(script.Recode, 5, 2), 1, 2, 3)
	holdUnits(t, op(script.Recode, 5, 255), 1, 3, 255)
	holdUnits(t, op(script.Recode, 5, 256), 1, 3, 256)
}

func TestP15_1Join(t *testing.T) {
	holdUnits(t, op(script.Join, 1, 3), 3, 5)
	holdUnits(t, op(script.Join, 1, 5), 3, 5)
	holdUnits(t, op(script.Join, 3, 1), 1, 5)
	holdUnits(t, op(script.Join, 3, 5), 1, 5)
	holdUnits(t, op(script.Join, 5, 1), 1, 3)
	holdUnits(t, op(script.Join, 5, 3), 1, 3)
}

func TestP15_1Periods(t *testing.T) {
	for _, o := range []script.Op{
		periods(0, 59), periods(0, 31, 59), periods(0, 58, 59), periods(0, 1, 2, 3, 59), periods(-1, 60), periods(-719162, 2932896), periods(-1, 0, 1, 57, 58, 59, 60), periods(0, 1000), periods(-365, 0, 365),
	} {
		want := frame()
		want.Calendar = o.Calendar
		hold(t, frame(), span(), o, want, api.OK)
		hold(t, frame(), Span{}, o, want, api.OK)
	}
}

// An op's other fields, and the place where it stands, are nothing to it.
func TestP15_1OtherFields(t *testing.T) {
	for _, o := range []script.Op{op(script.Renumber, 5, 7), renames(10, "Till"), op(script.Reparent, 20, 10), op(script.Merge, 10, 30), splits(30, 31, 1, 29, 2), op(script.Recode, 1, 4), op(script.Join, 1, 3), periods(0, 30, 90)} {
		want, e := Next(frame(), span(), o)
		if e != api.OK {
			t.Fatalf("Next of %v: %d", o, e)
		}
		more := script.Op{Kind: o.Kind, From: 4000000000, To: 4000000000, Name: "\xff no name\n", Parts: make([]script.Part, 20), Calendar: calendar.Calendar{Starts: []day.Day{9, 9}, End: 8}, At: -5}
		switch o.Kind {
		case script.Rename:
			more.From, more.Name = o.From, o.Name
		case script.Split:
			more.From, more.Parts = o.From, o.Parts
		case script.Periods:
			more.Calendar = o.Calendar
		default:
			more.From, more.To = o.From, o.To
		}
		hold(t, frame(), span(), more, want, api.OK)
		more.At = 1 << 62
		hold(t, frame(), span(), more, want, api.OK)
	}
}
