package codec

import (
	"bytes"
	"encoding/binary"
	"encoding/hex"
	"fmt"
	"math"
	"slices"
	"strings"
	"testing"

	"transposal/api"
	"transposal/book"
	"transposal/calendar"
	"transposal/chart"
	"transposal/day"
	"transposal/entry"
	"transposal/unit"
)

// The first and the last day that there are: January 1 of year 1, December 31 of year 9999.
const (
	first day.Day = -719162
	last  day.Day = 2932896
)

// piece is some of a book's bytes: a number's, or a name's, and what it is.
type piece struct {
	what string
	b    []byte
}

// number: is it one?
func (p piece) number() bool {
	return p.what != "mark" && p.what != "name"
}

// mosts are the greatest numbers that may be at each place, without a sign, by what they are.
func mosts() map[string]uint64 {
	return map[string]uint64{
		"accounts": api.MaxAccounts, "letters": api.MaxName, "entities": api.MaxUnits, "starts": api.MaxPeriods, "journals": api.MaxJournals, "lines": api.MaxLines,
		"code": api.MaxCode, "parent": api.MaxCode, "on": api.MaxCode, "kind": 255, "entity": api.MaxEntity, "of": api.MaxEntity, "with": api.MaxEntity,
		"start": math.MaxUint32, "end": math.MaxUint32, "day": math.MaxUint32, "amount": math.MaxUint64,
	}
}

// laid: a book's pieces, whether it may be or not.
func laid(b book.Book) []piece {
	l := []piece{{"mark", []byte{0x54, 0x52, 0x50, 0x31}}}
	number := func(what string, n int) { l = append(l, piece{what, binary.AppendUvarint(nil, uint64(n))}) }
	signed := func(what string, n int64) { l = append(l, piece{what, binary.AppendVarint(nil, n)}) }
	number("accounts", len(b.Chart))
	for _, a := range b.Chart {
		number("code", int(a.Code))
		number("letters", len(a.Name))
		l = append(l, piece{"name", []byte(a.Name)})
		number("kind", int(a.Kind))
		number("parent", int(a.Parent))
	}
	number("entities", len(b.Units))
	for _, n := range b.Units {
		number("entity", int(n))
	}
	number("starts", len(b.Calendar.Starts))
	for _, d := range b.Calendar.Starts {
		signed("start", int64(d))
	}
	signed("end", int64(b.Calendar.End))
	number("journals", len(b.Journals))
	for _, j := range b.Journals {
		signed("day", int64(j.Day))
		number("lines", len(j.Lines))
		for _, line := range j.Lines {
			number("on", int(line.Account))
			number("of", int(line.Entity))
			number("with", int(line.Counter))
			signed("amount", line.Amount)
		}
	}
	return l
}

// joined: the bytes of pieces.
func joined(l []piece) []byte {
	var b []byte
	for _, p := range l {
		b = append(b, p.b...)
	}
	return b
}

// written: a book's bytes, whether it may be or not.
func written(b book.Book) []byte {
	return joined(laid(b))
}

// unhex: bytes, told by digits with blanks between.
func unhex(s string) []byte {
	b, e := hex.DecodeString(strings.ReplaceAll(s, " ", ""))
	if e != nil {
		panic(e)
	}
	return b
}

// small: a book with some of all.
func small() book.Book {
	return book.Book{
		Frame: book.Frame{
			Chart: chart.Chart{
				{Code: 10, Name: "Cash"},
				{Code: 300, Name: "Cash in bank 2", Parent: 10},
				{Code: 20000, Name: "Sales", Kind: chart.Income},
			},
			Units:    unit.Units{1, 3, 500},
			Calendar: calendar.Calendar{Starts: []day.Day{-31, 0, 100}, End: 200},
		},
		Journals: []entry.Journal{
			{Day: -5, Lines: []entry.Line{{Account: 300, Entity: 1, Counter: 3, Amount: 100}, {Account: 20000, Entity: 1, Amount: -100}}},
			{Day: 150, Lines: []entry.Line{{Account: 10, Entity: 500, Counter: 500, Amount: -7}, {Account: 20000, Entity: 500, Counter: 1, Amount: 6}, {Account: 300, Entity: 500, Amount: 1}}},
		},
	}
}

// small's bytes, written by hand.
const smallBytes = "54 52 50 31" +
	" 03" +
	" 0a 04 43 61 73 68 00 00" +
	" ac 02 0e 43 61 73 68 20 69 6e 20 62 61 6e 6b 20 32 00 0a" +
	" a0 9c 01 05 53 61 6c 65 73 03 00" +
	" 03 01 03 f4 03" +
	" 03 3d 00 c8 01 90 03" +
	" 02" +
	" 09 02 ac 02 01 03 c8 01 a0 9c 01 01 00 c7 01" +
	" ac 02 03 0a f4 03 f4 03 0d a0 9c 01 f4 03 01 0c ac 02 f4 03 00 02"

// bare: the chapter's example: a book of no accounts, no entities, a period from day 0 to 1, no journals.
func bare() book.Book {
	return book.Book{Frame: book.Frame{Calendar: calendar.Calendar{Starts: []day.Day{0}, End: 1}}}
}

// paying: a book with an account, an entity, and a journal of these amounts.
func paying(amounts ...int64) book.Book {
	j := entry.Journal{Day: 0}
	for _, n := range amounts {
		j.Lines = append(j.Lines, entry.Line{Account: 1, Entity: 1, Amount: n})
	}
	b := bare()
	b.Chart, b.Units, b.Journals = flat(1), unit.Units{1}, []entry.Journal{j}
	return b
}

// flat: n accounts that may be, each in none.
func flat(n int) chart.Chart {
	var c chart.Chart
	for i := range n {
		c = append(c, chart.Account{Code: uint32(i + 1), Name: "n"})
	}
	return c
}

// deep: n accounts, each in the one ahead of it.
func deep(n int) chart.Chart {
	c := flat(n)
	for at := range c {
		c[at].Parent = uint32(at)
	}
	return c
}

// rising: n entities that may be.
func rising(n int) unit.Units {
	u := unit.Units{}
	for i := range n {
		u = append(u, uint16(i+1))
	}
	return u
}

// even: a calendar of n periods of a day each, from day 0 on.
func even(n int) calendar.Calendar {
	c := calendar.Calendar{End: day.Day(n)}
	for i := range n {
		c.Starts = append(c.Starts, day.Day(i))
	}
	return c
}

// pairs: n lines of an account and an entity, that sum to 0 two by two; n is even.
func pairs(n int) []entry.Line {
	var l []entry.Line
	for i := range n / 2 {
		l = append(l, entry.Line{Account: 1, Entity: 1, Amount: int64(i + 1)}, entry.Line{Account: 1, Entity: 1, Amount: int64(-i - 1)})
	}
	return l
}

// many: a book of n journals.
func many(n int) book.Book {
	b := paying(1, -1)
	b.Journals = slices.Repeat(b.Journals, n)
	return b
}

// greatest: a book with as many parts as may be, with lines of these amounts, by turns, and their others.
func greatest(amounts ...int64) book.Book {
	b := book.Book{Frame: book.Frame{Chart: flat(api.MaxAccounts), Units: rising(api.MaxUnits), Calendar: even(api.MaxPeriods)}}
	for at := range b.Chart {
		b.Chart[at].Name = strings.Repeat("x", api.MaxName)
	}
	for i := range api.MaxJournals {
		j := entry.Journal{Day: day.Day(i * api.MaxPeriods / api.MaxJournals)}
		for k := range api.MaxLines / 2 {
			n := amounts[k%len(amounts)]
			l := entry.Line{Account: uint32(k + 1), Entity: uint16(k + 1), Counter: uint16(i % (api.MaxUnits + 1)), Amount: n}
			j.Lines = append(j.Lines, l)
			l.Amount = -n
			j.Lines = append(j.Lines, l)
		}
		b.Journals = append(b.Journals, j)
	}
	return b
}

// wide: a book that may be, with just so many bytes.
func wide(size int) book.Book {
	b := greatest(1 << 30)
	short := size - len(written(b))
	// Accounts from 128 on have one byte more than those below.
	for _, j := range b.Journals {
		for at := range j.Lines {
			if short > 0 {
				j.Lines[at].Account = 128
				short--
			}
		}
	}
	if short != 0 {
		panic("a book of other bytes")
	}
	return b
}

// cloned: the same, in other memory.
func cloned(b book.Book) book.Book {
	other := book.Book{Frame: book.Frame{
		Chart:    slices.Clone(b.Chart),
		Units:    slices.Clone(b.Units),
		Calendar: calendar.Calendar{Starts: slices.Clone(b.Calendar.Starts), End: b.Calendar.End},
	}}
	for _, j := range b.Journals {
		other.Journals = append(other.Journals, entry.Journal{Day: j.Day, Lines: slices.Clone(j.Lines)})
	}
	return other
}

// changed: a book, with something of it changed.
func changed(b book.Book, change func(*book.Book)) book.Book {
	other := cloned(b)
	change(&other)
	return other
}

// roomy: a list with marks in its spare room; what is called tells whether it, and they, are as they were.
func roomy[T comparable](l []T, mark T) ([]T, func() bool) {
	room := make([]T, len(l)+3)
	for at := copy(room, l); at < len(room); at++ {
		room[at] = mark
	}
	were := slices.Clone(room)
	return room[:len(l)], func() bool { return slices.Equal(room, were) }
}

// guard: a book with marks in all spare rooms; what is called tells whether it, and they, are as they were.
func guard(b book.Book) (book.Book, func() bool) {
	accounts, sameAccounts := roomy(b.Chart, chart.Account{Code: 77777, Name: "mark", Kind: chart.Expense, Parent: 88888})
	units, sameUnits := roomy(b.Units, 777)
	starts, sameStarts := roomy(b.Calendar.Starts, 7777)
	looks := []func() bool{sameAccounts, sameUnits, sameStarts}
	room := make([]entry.Journal, len(b.Journals)+3)
	for at := range room {
		j := entry.Journal{Day: 77777}
		if at < len(b.Journals) {
			lines, sameLines := roomy(b.Journals[at].Lines, entry.Line{Account: 70, Entity: 7, Counter: 77, Amount: 777})
			j = entry.Journal{Day: b.Journals[at].Day, Lines: lines}
			looks = append(looks, sameLines)
		}
		room[at] = j
	}
	were := slices.Clone(room)
	looks = append(looks, func() bool { return slices.EqualFunc(room, were, unmoved) })
	frame := book.Frame{Chart: accounts, Units: units, Calendar: calendar.Calendar{Starts: starts, End: b.Calendar.End}}
	return book.Book{Frame: frame, Journals: room[:len(b.Journals)]}, func() bool {
		return !slices.ContainsFunc(looks, func(look func() bool) bool { return !look() })
	}
}

// unmoved: is a journal of the same day, with its lines at the same place?
func unmoved(a, b entry.Journal) bool {
	if a.Day != b.Day || len(a.Lines) != len(b.Lines) {
		return false
	}
	return len(a.Lines) == 0 || &a.Lines[0] == &b.Lines[0]
}

// short: a book, or bytes, as far as a failing test tells of them.
func short(x any) string {
	if b, ok := x.([]byte); ok {
		return fmt.Sprintf("%.400s", hex.EncodeToString(b))
	}
	return fmt.Sprintf("%.400s", strings.ToValidUTF8(fmt.Sprint(x), "?"))
}

// holdBook holds a book that may be against its bytes: it is encoded as them, and decoded as it was, if it has not too many; it stays as it was.
func holdBook(t *testing.T, b book.Book) {
	t.Helper()
	if e := b.Check(); e != api.OK {
		t.Fatalf("%s may not be: %d", short(b), e)
	}
	want := written(b)
	guarded, same := guard(b)
	got := Encode(guarded)
	if !bytes.Equal(got, want) {
		t.Fatalf("Encode of %s: %s, not %s", short(b), short(got), short(want))
	}
	if !same() {
		t.Errorf("Encode of %s changed it", short(b))
	}
	if len(want) > api.MaxBytes {
		holdError(t, want, api.ErrSize)
		return
	}
	holdBytes(t, want, b)
}

// holdBytes holds bytes against the book that they must be decoded as; that is encoded as they were; they stay as they were.
func holdBytes(t *testing.T, b []byte, want book.Book) {
	t.Helper()
	guarded, same := roomy(b, 0x5a)
	got, e := Decode(guarded)
	if e != api.OK || !book.Same(got, want) {
		t.Fatalf("Decode of %s: %s, %d, not %s", short(b), short(got), e, short(want))
	}
	if again := Encode(got); !bytes.Equal(again, b) {
		t.Errorf("Encode of what %s is decoded as: %s", short(b), short(again))
	}
	if !same() {
		t.Errorf("Decode of %s changed it", short(b))
	}
}

// holdError holds bytes against the error that Decode must tell; all else is zero beside it; they stay as they were.
func holdError(t *testing.T, b []byte, want api.Errno) {
	t.Helper()
	guarded, same := roomy(b, 0x5a)
	got, e := Decode(guarded)
	if e != want {
		t.Errorf("Decode of %s: %d, not %d", short(b), e, want)
	}
	if !zero(got) {
		t.Errorf("Decode of %s: %s beside %d", short(b), short(got), e)
	}
	if !same() {
		t.Errorf("Decode of %s changed it", short(b))
	}
}

// zero: is a book all zero?
func zero(b book.Book) bool {
	return len(b.Chart) == 0 && len(b.Units) == 0 && len(b.Calendar.Starts) == 0 && b.Calendar.End == 0 && len(b.Journals) == 0
}

// The chapter's example.
func TestP11_1Example(t *testing.T) {
	want := unhex("54 52 50 31 00 00 01 00 02 00")
	if got := Encode(bare()); !bytes.Equal(got, want) {
		t.Errorf("Encode of the chapter's book: %x", got)
	}
	holdBook(t, bare())
	holdBytes(t, want, bare())
}

func TestP11_1ByHand(t *testing.T) {
	want := unhex(smallBytes)
	if got := Encode(small()); !bytes.Equal(got, want) {
		t.Errorf("Encode of a small book: %x, not %x", got, want)
	}
	holdBook(t, small())
	holdBytes(t, want, small())
}

// R4: what is empty may be nil or not.
func TestP11_1OfNone(t *testing.T) {
	want := written(bare())
	b := bare()
	b.Chart, b.Units, b.Journals = chart.Chart{}, unit.Units{}, []entry.Journal{}
	if got := Encode(b); !bytes.Equal(got, want) {
		t.Errorf("Encode of a book of empty lists: %x", got)
	}
	// What stands in spare room isn't there.
	full := small()
	b.Chart, b.Units, b.Journals = full.Chart[:0], full.Units[:0], full.Journals[:0]
	if got := Encode(b); !bytes.Equal(got, want) {
		t.Errorf("Encode of a book of lists with nothing but room: %x", got)
	}
	for some := range 8 {
		b := small()
		if some&1 == 0 {
			b.Chart, b.Journals = nil, nil
		}
		if some&2 == 0 {
			b.Units, b.Journals = nil, nil
		}
		if some&4 == 0 {
			b.Journals = nil
		}
		holdBook(t, b)
	}
}

// numbers are numbers, each with its bytes, written by hand.
func numbers() []struct {
	n int
	b string
} {
	return []struct {
		n int
		b string
	}{
		{1, "01"}, {2, "02"}, {3, "03"}, {126, "7e"}, {127, "7f"},
		{128, "80 01"}, {129, "81 01"}, {255, "ff 01"}, {256, "80 02"}, {257, "81 02"}, {998, "e6 07"}, {999, "e7 07"},
		{1000, "e8 07"}, {16382, "fe 7f"}, {16383, "ff 7f"},
		{16384, "80 80 01"}, {16385, "81 80 01"}, {65535, "ff ff 03"}, {65536, "80 80 04"}, {999998, "be 84 3d"}, {999999, "bf 84 3d"},
	}
}

// Each code, as an account's, as a Parent, as a line's account; entities' numbers, and Counters.
func TestP11_1Numbers(t *testing.T) {
	for _, x := range numbers() {
		b := paying(1, -1)
		b.Chart = chart.Chart{{Code: uint32(x.n), Name: "n", Kind: chart.Equity}}
		for at := range b.Journals[0].Lines {
			b.Journals[0].Lines[at].Account = uint32(x.n)
		}
		if want := unhex("54 52 50 31 01 " + x.b + " 01 6e 02 00 01 01 01 00 02 01 00 02 " + x.b + " 01 00 02 " + x.b + " 01 00 01"); !bytes.Equal(Encode(b), want) {
			t.Errorf("Encode of account %d: %x, not %x", x.n, Encode(b), want)
		}
		holdBook(t, b)
		b.Chart = chart.Chart{{Code: uint32(x.n), Name: "n"}}.With(chart.Account{Code: 500000, Name: "m", Parent: uint32(x.n)})
		holdBook(t, b)
		if x.n > api.MaxEntity {
			continue
		}
		b = paying(1, -1)
		b.Units = unit.Units{uint16(x.n)}
		for at := range b.Journals[0].Lines {
			b.Journals[0].Lines[at].Entity, b.Journals[0].Lines[at].Counter = uint16(x.n), uint16(x.n*at)
		}
		if want := unhex("54 52 50 31 01 01 01 6e 00 00 01 " + x.b + " 01 00 02 01 00 02 01 " + x.b + " 00 02 01 " + x.b + " " + x.b + " 01"); !bytes.Equal(Encode(b), want) {
			t.Errorf("Encode of entity %d: %x, not %x", x.n, Encode(b), want)
		}
		holdBook(t, b)
	}
}

// Amounts of each number of bytes, the least and the greatest.
func TestP11_1Signed(t *testing.T) {
	for _, x := range []struct {
		n int64
		b string
	}{
		{1, "02"}, {-1, "01"}, {2, "04"}, {-2, "03"}, {63, "7e"}, {-63, "7d"}, {-64, "7f"},
		{64, "80 01"}, {65, "82 01"}, {-65, "81 01"}, {8191, "fe 7f"}, {-8192, "ff 7f"},
		{8192, "80 80 01"}, {-8193, "81 80 01"}, {1048575, "fe ff 7f"}, {-1048576, "ff ff 7f"},
		{1048576, "80 80 80 01"}, {-1048577, "81 80 80 01"},
		{1<<62 - 1, "fe ff ff ff ff ff ff ff 7f"}, {-1 << 62, "ff ff ff ff ff ff ff ff 7f"},
		{1 << 62, "80 80 80 80 80 80 80 80 80 01"}, {-1<<62 - 1, "81 80 80 80 80 80 80 80 80 01"},
		{math.MaxInt64, "fe ff ff ff ff ff ff ff ff 01"}, {-math.MaxInt64, "fd ff ff ff ff ff ff ff ff 01"},
	} {
		b := paying(x.n, -x.n)
		prefix := unhex("54 52 50 31 01 01 01 6e 00 00 01 01 01 00 02 01 00 02 01 01 00 " + x.b + " 01 01 00")
		if got := Encode(b); !bytes.HasPrefix(got, prefix) {
			t.Errorf("Encode of %d: %x", x.n, got)
		}
		holdBook(t, b)
	}
	for bit := range 63 {
		for off := int64(-2); off <= 2; off++ {
			n := 1<<bit + off
			if n != 0 {
				holdBook(t, paying(n, -n))
				holdBook(t, paying(-n, n))
			}
		}
	}
}

// A number has as many bytes as it needs: of lengths 1 to 10.
func TestP11_1AsFewAsCanBe(t *testing.T) {
	for size := 1; size <= 10; size++ {
		least, greatest := int64(1), int64(math.MaxInt64)
		if size > 1 {
			least = 1 << (7*size - 8)
		}
		if size < 10 {
			greatest = 1<<(7*size-1) - 1
		}
		for _, n := range []int64{least, greatest} {
			// What is ahead of the first amount has 21 bytes, what is between it and the other one 3.
			if got := len(Encode(paying(n, -n))) - 24; got != 2*size && !(n == least && size > 1 && got == 2*size-1) {
				t.Errorf("%d and its other have %d bytes", n, got)
			}
		}
	}
}

// Days below 0 and above, in all places, the first and the last one that there are.
func TestP11_1Days(t *testing.T) {
	days := []day.Day{first, first + 1, -8193, -8192, -65, -64, -63, -2, -1, 0, 1, 2, 62, 63, 64, 65, 8191, 8192, last - 2, last - 1, last}
	for i, start := range days {
		for _, end := range days[i+1:] {
			b := bare()
			b.Calendar = calendar.Calendar{Starts: []day.Day{start}, End: end}
			holdBook(t, b)
			b = paying(1, -1)
			b.Calendar = calendar.Calendar{Starts: []day.Day{start}, End: end}
			b.Journals = slices.Repeat(b.Journals, 2)
			b.Journals[0].Day, b.Journals[1].Day = start, end-1
			holdBook(t, b)
		}
	}
	b := bare()
	b.Calendar = calendar.Calendar{Starts: days[:len(days)-1], End: last}
	holdBook(t, b)
	b.Calendar = calendar.Calendar{Starts: []day.Day{first, -1, 0}, End: last}
	if got, want := Encode(b), unhex("54 52 50 31 00 00 03 f3 e4 57 01 00 c0 82 e6 02 00"); !bytes.Equal(got, want) {
		t.Errorf("Encode of the first day and the last one: %x, not %x", got, want)
	}
}

// How many there are: none, one, as many as one byte tells, as two tell, as many as may be.
func TestP11_1HowMany(t *testing.T) {
	for _, n := range []int{0, 1, 2, 126, 127, 128, 129, 199, api.MaxAccounts} {
		b := bare()
		b.Chart = flat(n)
		holdBook(t, b)
	}
	for n := range api.MaxUnits + 1 {
		b := bare()
		b.Units = rising(n)
		holdBook(t, b)
	}
	for n := 1; n <= api.MaxPeriods; n++ {
		b := bare()
		b.Calendar = even(n)
		holdBook(t, b)
	}
	for _, n := range []int{0, 1, 2, 126, 127, 128, 129, 255, 256, 257, 1999, api.MaxJournals} {
		holdBook(t, many(n))
	}
	for n := 2; n <= api.MaxLines; n += 2 {
		b := paying()
		b.Journals[0].Lines = pairs(n)
		holdBook(t, b)
	}
}

// Names of all lengths, with all that may stand in one; all kinds.
func TestP11_1NamesAndKinds(t *testing.T) {
	const letters = "abcdefghijklmnopqrstuvwxyzABCDEFGHIJKLMNOPQRSTUVWXYZ0123456789."
	for size := 1; size <= api.MaxName; size++ {
		for from := 0; from+size <= len(letters); from += 7 {
			b := bare()
			b.Chart = chart.Chart{{Code: 7, Name: letters[from : from+size]}, {Code: 8, Name: "x" + strings.Repeat(" ", max(size-2, 0)) + "y"}}
			holdBook(t, b)
		}
	}
	for kind := range chart.Kinds {
		b := bare()
		b.Chart = chart.Chart{{Code: 7, Name: "n", Kind: kind}, {Code: 8, Name: "n", Kind: kind, Parent: 7}, {Code: 9, Name: "n", Kind: (kind + 1) % chart.Kinds}}
		holdBook(t, b)
	}
	b := bare()
	b.Chart = deep(api.MaxDeep)
	holdBook(t, b)
	b.Chart = chart.Chart{{Code: 7, Name: "n", Parent: api.MaxCode}, {Code: api.MaxCode, Name: "n"}}
	holdBook(t, b)
}

// As much as may be of all: of bytes up to MaxBytes Decode tells the book, of more it tells ErrSize, though Encode tells them all.
func TestP11_1Greatest(t *testing.T) {
	for _, b := range []book.Book{greatest(1), greatest(1, 63, 64), wide(api.MaxBytes - 1), wide(api.MaxBytes), wide(api.MaxBytes + 1), greatest(math.MaxInt64)} {
		holdBook(t, b)
	}
	if n := len(Encode(wide(api.MaxBytes))); n != api.MaxBytes {
		t.Errorf("%d bytes", n)
	}
	if n := len(Encode(greatest(math.MaxInt64))); n < 1500000 {
		t.Errorf("%d bytes of a book with all amounts great", n)
	}
}
