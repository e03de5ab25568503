package book

import (
	"slices"
	"testing"

	"transposal/api"
	"transposal/calendar"
	"transposal/chart"
	"transposal/day"
	"transposal/entry"
	"transposal/unit"
)

// holdSameFrame holds SameFrame, both ways round, and Same of books of these frames, against what they must be; all stay as they were.
func holdSameFrame(t *testing.T, a, b Frame, want bool) {
	t.Helper()
	one, unchanged := guardFrame(a)
	other, same := guardFrame(b)
	if SameFrame(one, other) != want || SameFrame(other, one) != want {
		t.Errorf("SameFrame of %s, %s: not %t", short(a), short(b), want)
	}
	if !unchanged() || !same() {
		t.Errorf("SameFrame of %s, %s changed them", short(a), short(b))
	}
	holdSame(t, Book{Frame: a}, Book{Frame: b}, want)
	holdSame(t, Book{Frame: a, Journals: on(5, 40).Journals}, Book{Frame: b, Journals: on(5, 40).Journals}, want)
	holdSame(t, Book{Frame: a, Journals: on(5, 40).Journals}, Book{Frame: b, Journals: on(5, 41).Journals}, false)
}

// holdSame holds Same, both ways round, against what it must be; both books stay as they were.
func holdSame(t *testing.T, a, b Book, want bool) {
	t.Helper()
	one, unchanged := guard(a)
	other, same := guard(b)
	if Same(one, other) != want || Same(other, one) != want {
		t.Errorf("Same of %s, %s: not %t", short(a), short(b), want)
	}
	if !unchanged() || !same() {
		t.Errorf("Same of %s, %s changed them", short(a), short(b))
	}
}

// holdFrameChange holds that a frame isn't the same any more, once a thing is changed.
func holdFrameChange(t *testing.T, f Frame, change func(*Frame)) {
	t.Helper()
	changed := clonedFrame(f)
	change(&changed)
	holdSameFrame(t, f, changed, false)
}

// holdChange holds that a book isn't the same any more, once a thing of its journals is changed; its frame still is.
func holdChange(t *testing.T, b Book, change func(*Book)) {
	t.Helper()
	changed := cloned(b)
	change(&changed)
	holdSame(t, b, changed, false)
	if !SameFrame(b.Frame, changed.Frame) {
		t.Errorf("SameFrame of %s: false", short(b))
	}
}

// frames: ones that may be, and ones that may not.
func frames() []Frame {
	all := []Frame{{}, {Calendar: even(1)}, frame(), {Chart: flat(api.MaxAccounts), Units: rising(api.MaxUnits), Calendar: even(api.MaxPeriods)}}
	for _, x := range charts() {
		all = append(all, Frame{x.c, frame().Units, frame().Calendar})
	}
	for _, x := range entities() {
		all = append(all, Frame{frame().Chart, x.u, frame().Calendar})
	}
	for _, x := range calendars() {
		all = append(all, Frame{frame().Chart, frame().Units, x.c})
	}
	return all
}

// The same in other memory, with nil and empty parts alike; SameFrame and Same ask nothing of whether frames may be.
func TestP10_1SameOfTheSame(t *testing.T) {
	for _, f := range frames() {
		holdSameFrame(t, f, f, true)
		holdSameFrame(t, f, clonedFrame(f), true)
	}
	for _, n := range []int{0, 1, 2, 3, 255, 256, 257, api.MaxJournals, api.MaxJournals + 1} {
		b := filled(n + 1)
		b.Journals = b.Journals[:n]
		holdSame(t, b, b, true)
		holdSame(t, b, cloned(b), true)
	}
	for _, x := range flaws() {
		b := of(sale(70), x.j, sale(3), x.j)
		holdSame(t, b, cloned(b), true)
	}
}

// Frames, each against each: those that were made of unlike parts aren't the same.
func TestP10_1SameFrameEach(t *testing.T) {
	var all []Frame
	for _, accounts := range []chart.Chart{nil, frame().Chart, frame().Chart[:2], flat(1), flat(2)} {
		for _, units := range []unit.Units{nil, {1}, {1, 3}, {3, 1}, {1, 3, 5}} {
			for _, c := range []calendar.Calendar{{}, {End: 1}, even(1), even(2), {Starts: []day.Day{0}, End: 2}} {
				all = append(all, Frame{accounts, units, c})
			}
		}
	}
	for i, a := range all {
		for k, b := range all {
			if SameFrame(a, clonedFrame(b)) != (i == k) || Same(Book{Frame: a}, Book{Frame: clonedFrame(b)}) != (i == k) {
				t.Fatalf("SameFrame of %v, %v: not %t", a, b, i == k)
			}
		}
	}
}

// An account's code, name, kind, Parent, each bit of them.
func TestP10_1SameFrameOfAccounts(t *testing.T) {
	f := frame()
	for at, a := range f.Chart {
		for bit := range 32 {
			holdFrameChange(t, f, func(f *Frame) { f.Chart[at].Code ^= 1 << bit })
			holdFrameChange(t, f, func(f *Frame) { f.Chart[at].Parent ^= 1 << bit })
			if bit < 8 {
				holdFrameChange(t, f, func(f *Frame) { f.Chart[at].Kind ^= 1 << bit })
			}
		}
		for _, name := range []string{"", "c", "cash", "Cash.", "Cash ", " Cash", "Cas", "Cash in banc", "CASH", "Sale", a.Name + a.Name, a.Name + "x", a.Name[1:], a.Name + "\x00"} {
			holdFrameChange(t, f, func(f *Frame) { f.Chart[at].Name = name })
		}
	}
}

// placeChanges: a list that isn't the same any more: one left out, once more, two in turn, and one more at an end.
func placeChanges[T any](l []T, more T) [][]T {
	all := [][]T{append(slices.Clone(l), more), append([]T{more}, l...), append(slices.Clone(l), l...)}
	for i := range l {
		all = append(all,
			slices.Delete(slices.Clone(l), i, i+1),
			slices.Insert(slices.Clone(l), i, l[i]),
			append(slices.Clone(l), l[i]))
		for k := range i {
			swapped := slices.Clone(l)
			swapped[i], swapped[k] = swapped[k], swapped[i]
			all = append(all, swapped)
		}
	}
	return append(all, nil)
}

// How many accounts, entities, starts there are, and in which order.
func TestP10_1SameFrameOfPlaces(t *testing.T) {
	f := frame()
	f.Calendar.Starts = []day.Day{0, 31, 40}
	for _, l := range placeChanges(f.Chart, chart.Account{}) {
		holdFrameChange(t, f, func(f *Frame) { f.Chart = l })
	}
	for _, l := range placeChanges(f.Units, 0) {
		holdFrameChange(t, f, func(f *Frame) { f.Units = l })
	}
	for _, l := range placeChanges(f.Calendar.Starts, 0) {
		holdFrameChange(t, f, func(f *Frame) { f.Calendar.Starts = l })
	}
	// The same days, but for where End is.
	holdFrameChange(t, f, func(f *Frame) { f.Calendar.Starts = append(f.Calendar.Starts, f.Calendar.End) })
}

// An entity, a start, End, each bit of them.
func TestP10_1SameFrameOfNumbers(t *testing.T) {
	for _, f := range []Frame{frame(), {Chart: flat(2), Units: rising(api.MaxUnits), Calendar: even(api.MaxPeriods)}} {
		for at := range f.Units {
			for bit := range 16 {
				holdFrameChange(t, f, func(f *Frame) { f.Units[at] ^= 1 << bit })
			}
		}
		for bit := range 32 {
			for at := range f.Calendar.Starts {
				holdFrameChange(t, f, func(f *Frame) { f.Calendar.Starts[at] ^= 1 << bit })
			}
			holdFrameChange(t, f, func(f *Frame) { f.Calendar.End ^= 1 << bit })
		}
		holdFrameChange(t, f, func(f *Frame) { f.Calendar.End = -f.Calendar.End })
	}
}

// One of as many accounts as may be, and of more.
func TestP10_1SameFrameOfMany(t *testing.T) {
	for _, n := range []int{api.MaxAccounts, api.MaxAccounts + 1, 1000} {
		f := Frame{Chart: flat(n), Units: make(unit.Units, n), Calendar: calendar.Calendar{Starts: make([]day.Day, n)}}
		holdSameFrame(t, f, clonedFrame(f), true)
		for _, at := range []int{0, 39, 40, 59, 60, 100, n - 1} {
			holdFrameChange(t, f, func(f *Frame) { f.Chart[at].Parent++ })
			holdFrameChange(t, f, func(f *Frame) { f.Units[at]++ })
			holdFrameChange(t, f, func(f *Frame) { f.Calendar.Starts[at]++ })
		}
		holdFrameChange(t, f, func(f *Frame) { f.Chart = f.Chart[:n-1] })
		holdFrameChange(t, f, func(f *Frame) { f.Units = f.Units[:n-1] })
		holdFrameChange(t, f, func(f *Frame) { f.Calendar.Starts = f.Calendar.Starts[:n-1] })
	}
}

// R4: nil and empty accounts, entities, starts, journals and lines are the same, and none of them is the same as some.
func TestP10_1SameOfNone(t *testing.T) {
	room := on(5)
	var all []Book
	for _, accounts := range []chart.Chart{nil, {}, room.Chart[:0]} {
		for _, units := range []unit.Units{nil, {}, room.Units[:0]} {
			for _, starts := range [][]day.Day{nil, {}, room.Calendar.Starts[:0]} {
				for _, journals := range [][]entry.Journal{nil, {}, room.Journals[:0]} {
					all = append(all, Book{Frame{accounts, units, calendar.Calendar{Starts: starts, End: 9}}, journals})
				}
			}
		}
	}
	for _, a := range all {
		for _, b := range all {
			if !SameFrame(a.Frame, b.Frame) || !Same(a, b) {
				t.Fatalf("Same of %#v, %#v: false", a, b)
			}
		}
		for _, change := range []func(*Book){
			func(b *Book) { b.Chart = make(chart.Chart, 1) },
			func(b *Book) { b.Units = make(unit.Units, 1) },
			func(b *Book) { b.Calendar.Starts = make([]day.Day, 1) },
			func(b *Book) { b.Calendar.End = 0 },
		} {
			b := a
			change(&b)
			if SameFrame(a.Frame, b.Frame) || SameFrame(b.Frame, a.Frame) || Same(a, b) || Same(b, a) {
				t.Fatalf("Same of %#v, %#v: true", a, b)
			}
		}
		b := a
		b.Journals = make([]entry.Journal, 1)
		if Same(a, b) || Same(b, a) || !SameFrame(a.Frame, b.Frame) {
			t.Fatalf("Same of %#v, %#v: true", a, b)
		}
	}
	lines := [][]entry.Line{nil, {}, room.Journals[0].Lines[:0]}
	for _, one := range lines {
		for _, other := range lines {
			if !Same(of(sale(3), entry.Journal{Day: 5, Lines: one}), of(sale(3), entry.Journal{Day: 5, Lines: other})) {
				t.Errorf("Same of no lines, %t, %t: false", one == nil, other == nil)
			}
		}
		if Same(of(entry.Journal{Day: 5, Lines: one}), of(entry.Journal{Day: 5, Lines: make([]entry.Line, 1)})) || Same(of(sale(5)), of(entry.Journal{Day: 5, Lines: one})) {
			t.Errorf("Same of no lines, %t, and some: true", one == nil)
		}
	}
}

// mixed: a book of n journals, no two of them alike, of three lines each.
func mixed(n int) Book {
	b := Book{Frame: frame()}
	for i := range n {
		j := sale(day.Day(i * 58 / n))
		j.Lines[0].Amount += int64(i)
		j.Lines = append(j.Lines, entry.Line{Account: 10, Entity: 3, Counter: 5, Amount: int64(-i)})
		b.Journals = append(b.Journals, j)
	}
	return b
}

// A journal's day, one line's account, entity, Counter, amount, each bit of them, at each place.
func TestP10_1SameOfJournals(t *testing.T) {
	for _, n := range []int{1, 2, 3, 5} {
		b := mixed(n)
		for at := range n {
			for bit := range 32 {
				holdChange(t, b, func(b *Book) { b.Journals[at].Day ^= 1 << bit })
			}
			for i := range b.Journals[at].Lines {
				for bit := range 64 {
					holdChange(t, b, func(b *Book) { b.Journals[at].Lines[i].Amount ^= 1 << bit })
					if bit < 32 {
						holdChange(t, b, func(b *Book) { b.Journals[at].Lines[i].Account ^= 1 << bit })
					}
					if bit < 16 {
						holdChange(t, b, func(b *Book) { b.Journals[at].Lines[i].Entity ^= 1 << bit })
						holdChange(t, b, func(b *Book) { b.Journals[at].Lines[i].Counter ^= 1 << bit })
					}
				}
			}
		}
	}
}

// The order of journals and of lines, and how many there are.
func TestP10_1SameOfPlaces(t *testing.T) {
	for _, n := range []int{1, 2, 3, 6} {
		b := mixed(n)
		for _, l := range placeChanges(b.Journals, entry.Journal{}) {
			holdChange(t, b, func(b *Book) { b.Journals = l })
		}
		for at := range n {
			for _, l := range placeChanges(b.Journals[at].Lines, entry.Line{}) {
				holdChange(t, b, func(b *Book) { b.Journals[at].Lines = l })
			}
		}
	}
	// A line that stands in the next journal.
	b := of(sale(5), sale(5))
	holdChange(t, b, func(b *Book) {
		b.Journals[0].Lines, b.Journals[1].Lines = b.Journals[0].Lines[:1], append(b.Journals[0].Lines[1:], b.Journals[1].Lines...)
	})
	// One journal, and the two of its lines.
	b = of(entry.Journal{Day: 5, Lines: slices.Concat(pair(10, 1, 0), pair(20, 3, 0))})
	holdChange(t, b, func(b *Book) {
		b.Journals = []entry.Journal{{Day: 5, Lines: pair(10, 1, 0)}, {Day: 5, Lines: pair(20, 3, 0)}}
	})
}

// Books of as many journals as may be, and of more, are looked through to their ends.
func TestP10_1SameOfMany(t *testing.T) {
	for _, n := range []int{255, 256, 257, api.MaxJournals - 1, api.MaxJournals, api.MaxJournals + 1, 5000} {
		b := mixed(n)
		for _, at := range []int{0, 59, 60, 61, n - 2, n - 1} {
			holdChange(t, b, func(b *Book) { b.Journals[at].Day++ })
			holdChange(t, b, func(b *Book) { b.Journals[at].Lines[2].Counter++ })
		}
		holdChange(t, b, func(b *Book) { b.Journals = b.Journals[:n-1] })
		holdChange(t, b, func(b *Book) { b.Journals = b.Journals[1:] })
		holdChange(t, b, func(b *Book) { b.Journals = append(b.Journals, entry.Journal{}) })
		// Alike journals, as many, and fewer by what 8 bits leave away.
		holdSame(t, Book{Journals: make([]entry.Journal, n+1)}, Book{Journals: make([]entry.Journal, n+1)}, true)
		holdSame(t, Book{Journals: make([]entry.Journal, n+1)}, Book{Journals: make([]entry.Journal, n+1-256)}, false)
	}
}

// Journals that lie in one room, one beside the other, and the same ones twice.
func TestP10_1SameInOneRoom(t *testing.T) {
	room := on(1, 2, 1, 2, 1, 2).Journals
	b := of(room[:2]...)
	if !Same(b, b) || !Same(b, of(room[2:4]...)) || Same(b, of(room[1:3]...)) || Same(b, of(room[:1]...)) || Same(b, of(room[:4]...)) {
		t.Error("Same of journals in one room")
	}
}
