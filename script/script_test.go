package script

import (
	"fmt"
	"math"
	"slices"
	"strings"
	"sync"
	"testing"
	"unsafe"

	"transposal/api"
	"transposal/calendar"
	"transposal/day"
)

// The first and the last day that there are: January 1 of year 1, December 31 of year 9999.
const (
	firstDay day.Day = -719162
	lastDay  day.Day = 2932896
)

// said is what a kind has to say for itself.
type said struct {
	kind Kind
	word string
	link string
	unit bool
}

// kinds: all, in the chapter's order.
func kinds() []said {
	return []said{
		{Renumber, "renumber", "to", false},
		{Rename, "rename", "", false},
		{Reparent, "reparent", "under", false},
		{Merge, "merge", "into", false},
		{Split, "split", "into", false},
		{Recode, "recode", "to", true},
		{Join, "join", "into", true},
		{Periods, "calendar", "until", false},
	}
}

// noKinds: numbers that are no kind's; some would be one, were they looked at by their lowest bits, or without their sign.
func noKinds() []Kind {
	l := []Kind{Kinds, Kinds + 1, -1, -2, -Kinds, -Kinds - 1, math.MaxInt, math.MaxInt - 1, math.MinInt, math.MinInt + 1}
	for bit := 3; bit < 63; bit++ {
		for k := range Kinds {
			l = append(l, 1<<bit+k, -1<<bit+k, -1<<bit-k, 1<<bit-k-1+Kinds)
		}
	}
	for k := range Kinds {
		l = append(l, math.MinInt+k, math.MaxInt-k)
	}
	return l
}

// full: an op of a kind that has something in each of its fields.
func full(k Kind) Op {
	return Op{
		Kind: k, From: 11, To: 12, Name: "Cash", Parts: []Part{{21, 31}, {22, 32}},
		Calendar: calendar.Calendar{Starts: []day.Day{0, 31}, End: 59}, At: 77,
	}
}

// guard: an op in memory of its own, with spare room behind its lists, and whether all of that is still as it was.
func guard(o Op) (Op, func() bool) {
	parts := append(slices.Clone(o.Parts), Part{901, 902}, Part{903, 904})
	starts := append(slices.Clone(o.Calendar.Starts), 905, 906)
	wasParts, wasStarts := slices.Clone(parts), slices.Clone(starts)
	o.Parts, o.Calendar.Starts = parts[:len(parts)-2], starts[:len(starts)-2]
	return o, func() bool {
		return slices.Equal(parts, wasParts) && slices.Equal(starts, wasStarts)
	}
}

// guardAll: ops in memory of their own, with spare room, and whether all of that is still as it was.
func guardAll(l []Op) ([]Op, func() bool) {
	all := append(slices.Clone(l), full(Join), full(Split))
	var looks []func() bool
	for i := range all {
		var look func() bool
		all[i], look = guard(all[i])
		looks = append(looks, look)
	}
	was := fmt.Sprintf("%#v", all)
	return all[:len(l)], func() bool {
		for _, look := range looks {
			if !look() {
				return false
			}
		}
		return fmt.Sprintf("%#v", all) == was
	}
}

// holdText: an op has just this text, wherever it stands, alone and in a list; it stays as it was.
func holdText(t *testing.T, o Op, want string) {
	t.Helper()
	for _, at := range []int{0, 1, -1, math.MaxInt, math.MinInt} {
		o.At = at
		guarded, unchanged := guard(o)
		if got := guarded.Text(); got != want {
			t.Fatalf("Text of %.200v: %.200q, not %.200q", o, got, want)
		}
		if got := guarded.Text(); got != want {
			t.Fatalf("Text of %.200v, once more: %.200q, not %.200q", o, got, want)
		}
		if !unchanged() {
			t.Fatalf("Text of %.200v changed it", o)
		}
	}
	holdPrint(t, []Op{o}, want+"\n")
	holdPrint(t, []Op{o, o}, want+"\n"+want+"\n")
}

// holdPrint: ops have just this text; they stay as they were.
func holdPrint(t *testing.T, l []Op, want string) {
	t.Helper()
	guarded, unchanged := guardAll(l)
	if got := Print(guarded); got != want {
		t.Fatalf("Print of %.200v: %.200q, not %.200q", l, got, want)
	}
	if !unchanged() {
		t.Fatalf("Print of %.200v changed them", l)
	}
}

func TestP13_1Kinds(t *testing.T) {
	for i, x := range kinds() {
		if int(x.kind) != i {
			t.Errorf("%s is kind %d, not %d", x.word, x.kind, i)
		}
		if got := x.kind.Word(); got != x.word {
			t.Errorf("Word of %d: %q, not %q", i, got, x.word)
		}
		if got := x.kind.Link(); got != x.link {
			t.Errorf("Link of %s: %q, not %q", x.word, got, x.link)
		}
		if got := x.kind.Unit(); got != x.unit {
			t.Errorf("Unit of %s: %t", x.word, got)
		}
	}
	if int(Kinds) != len(kinds()) {
		t.Errorf("there are %d kinds, not %d", Kinds, len(kinds()))
	}
}

func TestP13_1NoKinds(t *testing.T) {
	for _, k := range noKinds() {
		if k >= 0 && k < Kinds {
			t.Fatalf("%d is a kind", k)
		}
		if word, link, unit := k.Word(), k.Link(), k.Unit(); word != "" || link != "" || unit {
			t.Errorf("of kind %d: %q, %q, %t", k, word, link, unit)
		}
	}
}

func TestP13_1Example(t *testing.T) {
	holdText(t, Op{Kind: Split, From: 1, Parts: []Part{{2, 3}, {4, 1}}}, "split 1 into 2 3, 4 1;")
}

// One of each kind, by hand.
func TestP13_1TextOfEach(t *testing.T) {
	holdText(t, Op{Kind: Renumber, From: 1, To: 2}, "renumber 1 to 2;")
	holdText(t, Op{Kind: Rename, From: 1, Name: "Cash in bank 2"}, `rename 1 "Cash in bank 2";`)
	holdText(t, Op{Kind: Reparent, From: 1, To: 2}, "reparent 1 under 2;")
	holdText(t, Op{Kind: Reparent, From: 1, To: 0}, "reparent 1 under 0;")
	holdText(t, Op{Kind: Merge, From: 1, To: 2}, "merge 1 into 2;")
	holdText(t, Op{Kind: Split, From: 1, Parts: []Part{{2, 3}}}, "split 1 into 2 3;")
	holdText(t, Op{Kind: Recode, From: 1, To: 2}, "recode 1 to 2;")
	holdText(t, Op{Kind: Join, From: 1, To: 2}, "join 1 into 2;")
	holdText(t, Op{Kind: Periods, Calendar: calendar.Calendar{Starts: []day.Day{0}, End: 11016}}, "calendar 1970-01-01 until 2000-02-29;")
	holdText(t, Op{Kind: Periods, Calendar: calendar.Calendar{Starts: []day.Day{0, 31}, End: 59}}, "calendar 1970-01-01 1970-02-01 until 1970-03-01;")
}

// Of each kind no more is told than its own fields.
func TestP13_1TextOfNoMore(t *testing.T) {
	for i, want := range []string{
		"renumber 11 to 12;",
		`rename 11 "Cash";`,
		"reparent 11 under 12;",
		"merge 11 into 12;",
		"split 11 into 21 31, 22 32;",
		"recode 11 to 12;",
		"join 11 into 12;",
		"calendar 1970-01-01 1970-02-01 until 1970-03-01;",
	} {
		holdText(t, full(Kind(i)), want)
	}
}

// Numbers: each of some digits, the edges of each length, up to the greatest of 32 bits, on either side.
func TestP13_1TextOfNumbers(t *testing.T) {
	numbers := []uint32{0, api.MaxEntity - 1, api.MaxEntity, api.MaxEntity + 1, api.MaxCode, api.MaxCode + 1, 1<<31 - 1, 1 << 31, 1<<31 + 1, math.MaxUint32 - 1, math.MaxUint32}
	for ten := uint32(1); ten <= 1000000000; ten *= 10 {
		numbers = append(numbers, ten, ten+1, 2*ten, ten-1)
		if ten == 1000000000 {
			break
		}
	}
	for n := range uint32(200) {
		numbers = append(numbers, n)
	}
	for _, n := range numbers {
		for _, x := range kinds() {
			switch x.kind {
			case Rename:
				holdText(t, Op{Kind: Rename, From: n, Name: "a"}, fmt.Sprintf(`rename %d "a";`, n))
			case Split:
				holdText(t, Op{Kind: Split, From: n, Parts: []Part{{7, 8}}}, fmt.Sprintf("split %d into 7 8;", n))
				holdText(t, Op{Kind: Split, From: 7, Parts: []Part{{n, 8}}}, fmt.Sprintf("split 7 into %d 8;", n))
				holdText(t, Op{Kind: Split, From: 7, Parts: []Part{{8, 9}, {n, 8}, {1, 2}}}, fmt.Sprintf("split 7 into 8 9, %d 8, 1 2;", n))
			case Periods:
			default:
				holdText(t, Op{Kind: x.kind, From: n, To: 7}, fmt.Sprintf("%s %d %s 7;", x.word, n, x.link))
				holdText(t, Op{Kind: x.kind, From: 7, To: n}, fmt.Sprintf("%s 7 %s %d;", x.word, x.link, n))
				holdText(t, Op{Kind: x.kind, From: n, To: n}, fmt.Sprintf("%s %d %s %d;", x.word, n, x.link, n))
			}
		}
	}
}

// Names: whatever bytes may stand within quotes, as they are.
func TestP13_1TextOfNames(t *testing.T) {
	names := []string{
		"", " ", "  ", "a", "Cash", "Cash in bank 2", "Cash. In bank", " a ", "0", "007", ".", ",", ";", "; merge 1 into 2;", "#", "# no note", "-", "2000-02-29",
		`\`, `\n`, `a\`, "'", "\t", "\r", "\x00", "%d", "%", "é", "É ‐ 現金", "🂡", "e\u0301", "\u00a0", "\u2028", "\ufffd", "\xff", "a\xc3", "<&>",
		strings.Repeat("a", api.MaxName), strings.Repeat("é", api.MaxName), strings.Repeat("a", api.MaxName+1), strings.Repeat("x ", 30000),
	}
	for b := range 256 {
		if b != '"' && b != '\n' {
			names = append(names, string([]byte{byte(b)}), string([]byte{'a', byte(b), 'b'}))
		}
	}
	for _, name := range names {
		holdText(t, Op{Kind: Rename, From: 10, Name: name}, "rename 10 \""+name+"\";")
	}
}

// Splits: of each number of parts that may be, with weights at the edges.
func TestP13_1TextOfSplits(t *testing.T) {
	holdText(t, Op{Kind: Split, From: 9, Parts: []Part{{10, 2}, {11, 1}}}, "split 9 into 10 2, 11 1;")
	holdText(t, Op{Kind: Split, From: 999999, Parts: []Part{{1, 1}, {999999, 1000000}}}, "split 999999 into 1 1, 999999 1000000;")
	holdText(t, Op{Kind: Split, From: 1, Parts: []Part{{2, 1}, {3, 10}, {4, 100}, {5, 1000}, {6, 10000}, {7, 100000}, {8, 1000000}, {999999, 999999}}},
		"split 1 into 2 1, 3 10, 4 100, 5 1000, 6 10000, 7 100000, 8 1000000, 999999 999999;")
	// As they stand: neither ordered, nor each once.
	holdText(t, Op{Kind: Split, From: 3, Parts: []Part{{5, 2}, {3, 1}, {5, 2}, {4, 9}}}, "split 3 into 5 2, 3 1, 5 2, 4 9;")
	for _, weight := range []int64{1, 2, 9, 10, 99, 100, 999999, api.MaxWeight} {
		o := Op{Kind: Split, From: 1}
		want := "split 1 into "
		for i := range api.MaxParts {
			o.Parts = append(o.Parts, Part{uint32(i + 2), weight})
			if i > 0 {
				want += ", "
			}
			want += fmt.Sprintf("%d %d", i+2, weight)
			holdText(t, o, want+";")
		}
	}
}

// Calendars: of each number of starts up to MaxPeriods, and of the first and the last day there is.
func TestP13_1TextOfCalendars(t *testing.T) {
	of := func(end day.Day, starts ...day.Day) Op {
		return Op{Kind: Periods, Calendar: calendar.Calendar{Starts: starts, End: end}}
	}
	holdText(t, of(lastDay, firstDay), "calendar 0001-01-01 until 9999-12-31;")
	holdText(t, of(0, -1), "calendar 1969-12-31 until 1970-01-01;")
	holdText(t, of(firstDay+1, firstDay), "calendar 0001-01-01 until 0001-01-02;")
	holdText(t, of(lastDay, firstDay, 0, 11016, lastDay-1), "calendar 0001-01-01 1970-01-01 2000-02-29 9999-12-30 until 9999-12-31;")
	// What chapter 14 reads asks neither for a start, nor for an order.
	holdText(t, of(0), "calendar until 1970-01-01;")
	holdText(t, of(firstDay), "calendar until 0001-01-01;")
	holdText(t, of(0, 31, 31, 0), "calendar 1970-02-01 1970-02-01 1970-01-01 until 1970-01-01;")
	o := Op{Kind: Periods, Calendar: calendar.Calendar{End: 0}}
	want := "calendar"
	for i := range api.MaxPeriods {
		year, month := 1995+i/12, i%12+1
		start, _ := day.Of(year, month, 1)
		o.Calendar.Starts = append(o.Calendar.Starts, start)
		o.Calendar.End = start + 28
		want += fmt.Sprintf(" %04d-%02d-01", year, month)
		holdText(t, o, want+" until "+o.Calendar.End.Text()+";")
	}
	for i := range 20 * api.MaxPeriods {
		o.Calendar.Starts = append(o.Calendar.Starts, day.Day(i))
		want += " " + day.Day(i).Text()
	}
	holdText(t, o, want+" until "+o.Calendar.End.Text()+";")
}

// Print: of none, of one, of many.
func TestP13_1Print(t *testing.T) {
	holdPrint(t, nil, "")
	holdPrint(t, []Op{}, "")
	holdPrint(t, []Op{{Kind: Renumber, From: 1, To: 2}}, "renumber 1 to 2;\n")
	holdPrint(t, []Op{{Kind: Merge, From: 3, To: 2}, {Kind: Renumber, From: 1, To: 9}, {Kind: Split, From: 9, Parts: []Part{{10, 2}, {11, 1}}}},
		"merge 3 into 2;\nrenumber 1 to 9;\nsplit 9 into 10 2, 11 1;\n")
	var all []Op
	for _, x := range kinds() {
		all = append(all, full(x.kind))
	}
	want := `renumber 11 to 12;
rename 11 "Cash";
reparent 11 under 12;
merge 11 into 12;
split 11 into 21 31, 22 32;
recode 11 to 12;
join 11 into 12;
calendar 1970-01-01 1970-02-01 until 1970-03-01;
`
	holdPrint(t, all, want)
	// Where they stand, or stood, orders nothing.
	for i := range all {
		all[i].At = 100 - i
	}
	holdPrint(t, all, want)
	for _, many := range []int{2, api.MaxOps / 8, api.MaxOps, 1000} {
		holdPrint(t, slices.Repeat(all, many), strings.Repeat(want, many))
	}
}

// What is answered is memory of its own, and hangs on the ops alone.
func TestP13_1Memory(t *testing.T) {
	name := []byte("Cash in bank")
	o := Op{Kind: Rename, From: 10, Name: unsafe.String(&name[0], len(name))}
	text, print := o.Text(), Print([]Op{o})
	if string(name) != "Cash in bank" {
		t.Errorf("Text, Print changed the name: %q", name)
	}
	clear(name)
	if text != `rename 10 "Cash in bank";` || print != text+"\n" {
		t.Errorf("the texts share the name's memory: %q, %q", text, print)
	}
	all := []Op{full(Rename), full(Split), full(Periods), full(Join)}
	want := Print(all)
	var group sync.WaitGroup
	for range 8 {
		group.Go(func() {
			for range 100 {
				if got := Print(all); got != want || !Same(all, all) {
					t.Errorf("at the same time: %q", got)
				}
			}
		})
	}
	group.Wait()
}

// Nothing is promised of what ops that no script has are told as; that each call ends is.
func TestP13_1AnyOpEnds(t *testing.T) {
	for _, k := range append(noKinds(), 0, 1, 2, 3, 4, 5, 6, 7) {
		for _, o := range []Op{
			{Kind: k},
			{Kind: k, From: math.MaxUint32, To: math.MaxUint32, Name: "\"\n\"", At: math.MinInt},
			{Kind: k, Parts: []Part{{0, 0}, {math.MaxUint32, math.MinInt64}, {math.MaxUint32, math.MaxInt64}}},
			{Kind: k, Calendar: calendar.Calendar{Starts: []day.Day{math.MinInt32, math.MaxInt32, lastDay + 1, firstDay - 1}, End: math.MaxInt32}},
		} {
			guarded, unchanged := guard(o)
			text := guarded.Text()
			if Print([]Op{guarded}) != text+"\n" || !Same([]Op{guarded}, []Op{o}) || !unchanged() {
				t.Errorf("of %v: %q", o, text)
			}
		}
	}
}
