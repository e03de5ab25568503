package codec

import (
	"bytes"
	"encoding/binary"
	"math"
	"slices"
	"strings"
	"testing"

	"transposal/api"
	"transposal/book"
	"transposal/calendar"
	"transposal/chart"
	"transposal/day"
	"transposal/entry"
	"transposal/unit"
)

// instead: the bytes of pieces, with others instead of one's.
func instead(l []piece, at int, b []byte) []byte {
	return slices.Concat(joined(l[:at]), b, joined(l[at+1:]))
}

// padded: a number, in just so many bytes, the last of them a 0.
func padded(n uint64, size int) []byte {
	b := binary.AppendUvarint(nil, n)
	b[len(b)-1] |= 0x80
	for len(b) < size-1 {
		b = append(b, 0x80)
	}
	return append(b, 0)
}

// value: what a number's bytes tell, without a sign.
func value(p piece) uint64 {
	n, _ := binary.Uvarint(p.b)
	return n
}

// ErrSize at one byte above MaxBytes, whatever they are; not at MaxBytes.
func TestP11_2Size(t *testing.T) {
	for _, size := range []int{api.MaxBytes + 1, api.MaxBytes + 2, 2 * api.MaxBytes, 1 << 22} {
		holdError(t, make([]byte, size), api.ErrSize)
		// A book's bytes, with others behind them, and those of a book that has so many.
		holdError(t, append(written(small()), make([]byte, size-len(written(small())))...), api.ErrSize)
	}
	holdError(t, written(wide(api.MaxBytes+1)), api.ErrSize)
	holdError(t, append(written(wide(api.MaxBytes)), 0), api.ErrSize)
	holdError(t, make([]byte, api.MaxBytes), api.ErrForm)
	holdError(t, append(written(small()), make([]byte, api.MaxBytes-len(written(small())))...), api.ErrRest)
	holdBytes(t, written(wide(api.MaxBytes)), wide(api.MaxBytes))
}

// ErrShort of none to three bytes, whatever they are.
func TestP11_2FewerThanFour(t *testing.T) {
	holdError(t, nil, api.ErrShort)
	for _, s := range []string{"", "T", "TR", "TRP", "X", "TX", "XRP", "trp", "\x00\x00\x00", "RP1", "P1", "1"} {
		holdError(t, []byte(s), api.ErrShort)
	}
}

// ErrForm of another beginning, whatever is behind it.
func TestP11_2Beginning(t *testing.T) {
	for _, whole := range [][]byte{written(bare()), written(small()), []byte("TRP1"), []byte("TRP1\xff"), append(written(small()), 1)} {
		for at := range 4 {
			for other := range 256 {
				b := slices.Clone(whole)
				b[at] = byte(other)
				if b[at] != whole[at] {
					holdError(t, b, api.ErrForm)
				}
			}
		}
	}
	for _, s := range []string{"TRP2", "trp1", "TRP ", "1PRT", " TRP1", "\x00\x00\x00\x00", "TRT1", "TTRP1\x00\x00\x01\x00\x02\x00"} {
		holdError(t, []byte(s), api.ErrForm)
	}
	// Behind the right one there is no number.
	holdError(t, []byte("TRP1"), api.ErrShort)
}

// Where bytes end ahead of a book's end, be it within a number, within a name, or between them, it is ErrShort.
func TestP11_2NoBeginningIsABook(t *testing.T) {
	for _, b := range []book.Book{bare(), small(), paying(math.MaxInt64, -math.MaxInt64), many(130), {Frame: book.Frame{Chart: flat(130), Units: rising(40), Calendar: even(60)}}} {
		whole := written(b)
		for size := range whole {
			holdError(t, whole[:size], api.ErrShort)
			// What stands in spare room isn't there.
			if got, e := Decode(whole[:size:len(whole)]); e != api.ErrShort || !zero(got) {
				t.Errorf("Decode of %d bytes, with more behind them: %d", size, e)
			}
		}
	}
}

// Of each number in its place: ErrShort, where its bytes end, up to nine of them, whatever they would tell.
func TestP11_2EachNumberShort(t *testing.T) {
	l := laid(small())
	for at, p := range l {
		if !p.number() {
			continue
		}
		for size := range 10 {
			for _, next := range []byte{0x80, 0x81, 0xc0, 0xff} {
				holdError(t, slices.Concat(joined(l[:at]), bytes.Repeat([]byte{next}, size)), api.ErrShort)
			}
		}
	}
}

// Of each number in its place: ErrForm, where one behind the first is 0.
func TestP11_2EachNumberNought(t *testing.T) {
	l := laid(small())
	for at, p := range l {
		if !p.number() {
			continue
		}
		for size := len(p.b) + 1; size <= 10; size++ {
			holdError(t, instead(l, at, padded(value(p), size)), api.ErrForm)
			// Of a number that is above what may be, too.
			holdError(t, instead(l, at, append(bytes.Repeat([]byte{0xff}, size-1), 0)), api.ErrForm)
		}
		holdError(t, instead(l, at, []byte{0x80, 0}), api.ErrForm)
		// A 0 behind another 0 isn't reached.
		holdError(t, instead(l, at, []byte{0x80, 0, 0}), api.ErrForm)
	}
}

// Of each number in its place: ErrForm, where a tenth byte is above 1; none has an eleventh.
func TestP11_2EachNumberTenth(t *testing.T) {
	l := laid(small())
	for at, p := range l {
		if !p.number() {
			continue
		}
		for tenth := 2; tenth < 256; tenth++ {
			for _, next := range []byte{0x80, 0xff} {
				holdError(t, instead(l, at, append(bytes.Repeat([]byte{next}, 9), byte(tenth))), api.ErrForm)
			}
		}
		holdError(t, instead(l, at, append(bytes.Repeat([]byte{0x80}, 9), 0)), api.ErrForm)
		holdError(t, instead(l, at, append(bytes.Repeat([]byte{0x80}, 10), 1)), api.ErrForm)
		holdError(t, instead(l, at, append(bytes.Repeat([]byte{0xff}, 10), 0)), api.ErrForm)
	}
	// The last number, where nothing is behind it: with nine bytes it is ErrShort.
	end := len(l) - 1
	holdError(t, append(joined(l[:end]), bytes.Repeat([]byte{0x80}, 9)...), api.ErrShort)
	holdError(t, append(joined(l[:end]), bytes.Repeat([]byte{0x80}, 10)...), api.ErrForm)
}

// Of each number in its place, but of amounts: ErrRange above what may be, and not of what may be.
func TestP11_2EachNumberRange(t *testing.T) {
	l := laid(small())
	for at, p := range l {
		if !p.number() || p.what == "amount" {
			continue
		}
		most := mosts()[p.what]
		for _, n := range []uint64{most + 1, most + 2, 2*most + 1, 1 << 16 << 16, 1<<32 + value(p), 1 << 62, 1<<63 + value(p), math.MaxUint64} {
			if n > most {
				holdError(t, instead(l, at, binary.AppendUvarint(nil, n)), api.ErrRange)
				holdError(t, slices.Concat(joined(l[:at]), binary.AppendUvarint(nil, n), make([]byte, 900)), api.ErrRange)
			}
		}
		// With much behind it, so that there are bytes for as many as it tells, and the first of them is wrong in its own way.
		if _, e := Decode(slices.Concat(joined(l[:at]), binary.AppendUvarint(nil, most), padded(0, 2), make([]byte, 9000))); e == api.ErrRange || e == api.ErrShort || e == api.OK {
			t.Errorf("Decode of %s %d: %d", p.what, most, e)
		}
	}
}

// Numbers at each limit are a book's, and one above is ErrRange.
func TestP11_2AtEachLimit(t *testing.T) {
	b := small()
	b.Chart[0].Parent = api.MaxCode
	b.Chart = append(b.Chart, chart.Account{Code: api.MaxCode, Name: strings.Repeat("x", api.MaxName)})
	b.Units = append(b.Units, api.MaxEntity)
	b.Journals[0].Lines = append(b.Journals[0].Lines,
		entry.Line{Account: api.MaxCode, Entity: api.MaxEntity, Counter: api.MaxEntity, Amount: math.MaxInt64},
		entry.Line{Account: api.MaxCode, Entity: api.MaxEntity, Counter: api.MaxEntity, Amount: -math.MaxInt64})
	holdBook(t, b)
	for _, change := range []func(*book.Book){
		func(b *book.Book) { b.Chart[3].Code++ },
		func(b *book.Book) { b.Chart[0].Parent++ },
		func(b *book.Book) { b.Chart[3].Name += "x" },
		func(b *book.Book) { b.Units[3]++ },
		func(b *book.Book) { b.Journals[0].Lines[2].Account++ },
		func(b *book.Book) { b.Journals[0].Lines[2].Entity++ },
		func(b *book.Book) { b.Journals[0].Lines[3].Counter++ },
		func(b *book.Book) { b.Chart = flat(api.MaxAccounts + 1) },
		func(b *book.Book) { b.Units = rising(api.MaxUnits + 1) },
		func(b *book.Book) { b.Calendar = even(api.MaxPeriods + 1) },
		func(b *book.Book) { b.Journals = many(api.MaxJournals + 1).Journals },
		func(b *book.Book) { b.Journals[1].Lines = pairs(api.MaxLines + 2) },
		func(b *book.Book) { b.Journals[1].Lines = append(pairs(api.MaxLines), b.Journals[1].Lines[0]) },
	} {
		holdError(t, written(changed(b, change)), api.ErrRange)
	}
	holdBook(t, changed(small(), func(b *book.Book) { b.Journals = nil; b.Chart = flat(api.MaxAccounts) }))
	holdBook(t, changed(small(), func(b *book.Book) { b.Journals = nil; b.Units = rising(api.MaxUnits) }))
	holdBook(t, changed(small(), func(b *book.Book) { b.Journals = nil; b.Calendar = even(api.MaxPeriods) }))
	holdBook(t, many(api.MaxJournals))
	holdBook(t, changed(many(3), func(b *book.Book) { b.Journals[1].Lines = pairs(api.MaxLines) }))
}

// Kinds up to 255 are read, and are for the book's Check; those behind are not.
func TestP11_2Kind(t *testing.T) {
	l := laid(small())
	at := slices.IndexFunc(l, func(p piece) bool { return p.what == "kind" })
	for n := range 1000 {
		want := api.ErrKind
		if n > math.MaxUint8 {
			want = api.ErrRange
		}
		// Account 10 has another one in it: of another kind is ErrKind, too.
		if n > 0 {
			holdError(t, instead(l, at, binary.AppendUvarint(nil, uint64(n))), want)
		}
	}
}

// Days up to both ends of 32 bits with a sign are read, and are for the book's Check; those beyond are not.
func TestP11_2DaysOf32Bits(t *testing.T) {
	l := laid(small())
	for at, p := range l {
		if p.what != "start" && p.what != "end" && p.what != "day" {
			continue
		}
		for _, n := range []int64{math.MinInt32, math.MinInt32 + 1, int64(first) - 1, int64(last) + 1, math.MaxInt32 - 1, math.MaxInt32} {
			holdError(t, instead(l, at, binary.AppendVarint(nil, n)), api.ErrDay)
		}
		for _, n := range []int64{math.MinInt32 - 1, math.MinInt32 - 2, math.MaxInt32 + 1, math.MaxInt32 + 2, 1 << 32, -1 << 32, 1<<32 + 5, math.MaxInt64, math.MinInt64} {
			holdError(t, instead(l, at, binary.AppendVarint(nil, n)), api.ErrRange)
		}
	}
}

// Amounts of 64 bits are read, all of them; 0 and the least are for the book's Check.
func TestP11_2Amounts(t *testing.T) {
	holdBook(t, paying(math.MaxInt64, -math.MaxInt64))
	holdError(t, written(paying(math.MinInt64, math.MaxInt64, 1)), api.ErrRange)
	holdError(t, written(paying(0)), api.ErrRange)
	holdError(t, written(paying(math.MaxInt64, math.MaxInt64)), api.ErrSum)
	holdError(t, written(paying(math.MaxInt64, math.MaxInt64, 2)), api.ErrSum)
	l := laid(paying(1, -1))
	holdError(t, append(joined(l[:len(l)-1]), unhex("ff ff ff ff ff ff ff ff ff 01")...), api.ErrRange)
	holdError(t, append(joined(l[:len(l)-1]), unhex("fe ff ff ff ff ff ff ff ff 01")...), api.ErrSum)
	holdError(t, append(joined(l[:len(l)-1]), unhex("ff ff ff ff ff ff ff ff ff 02")...), api.ErrForm)
}

// Behind each 'how many': ErrShort of fewer bytes than they need, and of just as many the error of the first of them.
func TestP11_2FewerThanTheyNeed(t *testing.T) {
	l := laid(small())
	for what, least := range map[string]int{"accounts": 4, "entities": 1, "starts": 1, "journals": 2, "lines": 4} {
		for at, p := range l {
			if p.what != what {
				continue
			}
			for n := 1; n <= int(mosts()[what]); n++ {
				ahead := slices.Concat(joined(l[:at]), binary.AppendUvarint(nil, uint64(n)))
				need := n * least
				if need < 2 {
					continue
				}
				// The first number behind is wrong, wherever it ends.
				wrong := append(padded(0, 2), make([]byte, need)...)
				holdError(t, slices.Concat(ahead, wrong[:need]), api.ErrForm)
				holdError(t, slices.Concat(ahead, wrong[:need+1]), api.ErrForm)
				holdError(t, slices.Concat(ahead, wrong[:need-1]), api.ErrShort)
				holdError(t, slices.Concat(ahead, wrong[:need/2]), api.ErrShort)
				holdError(t, ahead, api.ErrShort)
			}
			// Of none nothing is needed, and what is behind is read, if anything is to be.
			want := api.ErrForm
			if what == "journals" || what == "lines" && !slices.ContainsFunc(l[at:], func(p piece) bool { return p.what == "day" }) {
				want = api.ErrRest
			}
			holdError(t, slices.Concat(joined(l[:at]), []byte{0x00, 0x80, 0x00}), want)
		}
	}
}

// A name of fewer bytes than it is told to have; one of just as many, and nothing behind it.
func TestP11_2FewerThanANameNeeds(t *testing.T) {
	l := laid(small())
	for at, p := range l {
		if p.what != "letters" {
			continue
		}
		for n := 1; n <= api.MaxName; n++ {
			ahead := slices.Concat(joined(l[:at]), []byte{byte(n)})
			for size := range n + 1 {
				holdError(t, slices.Concat(ahead, bytes.Repeat([]byte("n"), size)), api.ErrShort)
			}
			// A name's bytes are no numbers: what is wrong in one isn't in it.
			wrong := slices.Concat(ahead, bytes.Repeat([]byte{0xff}, n), []byte{0x80, 0x00}, make([]byte, 20))
			holdError(t, wrong, api.ErrForm)
		}
	}
}

// Bytes behind a book's, of each kind, are ErrRest, and ahead of what the book's Check tells.
func TestP11_2Rest(t *testing.T) {
	for _, b := range []book.Book{bare(), small(), many(3), paying(1, 1), {}} {
		whole := written(b)
		for next := range 256 {
			holdError(t, append(slices.Clone(whole), byte(next)), api.ErrRest)
		}
		holdError(t, slices.Concat(whole, whole), api.ErrRest)
		holdError(t, slices.Concat(whole, []byte{0x80, 0x00}), api.ErrRest)
		holdError(t, slices.Concat(whole, make([]byte, 5000)), api.ErrRest)
	}
}

// wrongs are changes of a small book, each with the error that its Check must tell.
func wrongs() []struct {
	e      api.Errno
	change func(*book.Book)
} {
	return []struct {
		e      api.Errno
		change func(*book.Book)
	}{
		{api.ErrSize, func(b *book.Book) { b.Calendar.Starts = nil }},
		{api.ErrSize, func(b *book.Book) { b.Journals[1].Lines = nil }},
		{api.ErrRange, func(b *book.Book) { b.Chart[0].Code = 0 }},
		{api.ErrRange, func(b *book.Book) { b.Units[0] = 0 }},
		{api.ErrRange, func(b *book.Book) { b.Journals[0].Lines[0].Amount = 0 }},
		{api.ErrRange, func(b *book.Book) { b.Journals[1].Lines[2].Amount = math.MinInt64 }},
		{api.ErrOrder, func(b *book.Book) { b.Chart[1].Code = 10 }},
		{api.ErrOrder, func(b *book.Book) { b.Chart[1].Code = 9 }},
		{api.ErrOrder, func(b *book.Book) { b.Units[1] = 1 }},
		{api.ErrOrder, func(b *book.Book) { b.Calendar.Starts[1] = -31 }},
		{api.ErrOrder, func(b *book.Book) { b.Calendar.End = 100 }},
		{api.ErrOrder, func(b *book.Book) { b.Journals[1].Day = -6 }},
		{api.ErrName, func(b *book.Book) { b.Chart[0].Name = "" }},
		{api.ErrName, func(b *book.Book) { b.Chart[1].Name = " Bank" }},
		{api.ErrName, func(b *book.Book) { b.Chart[2].Name = "Sales\xff" }},
		{api.ErrName, func(b *book.Book) { b.Chart[2].Name = "\x00" }},
		{api.ErrName, func(b *book.Book) { b.Chart[2].Name = "S\u00e4le" }},
		{api.ErrKind, func(b *book.Book) { b.Chart[2].Kind = chart.Kinds }},
		{api.ErrKind, func(b *book.Book) { b.Chart[2].Kind = 255 }},
		{api.ErrKind, func(b *book.Book) { b.Chart[1].Kind = chart.Expense }},
		{api.ErrNone, func(b *book.Book) { b.Chart[1].Parent = 11 }},
		{api.ErrNone, func(b *book.Book) { b.Chart[1].Parent = api.MaxCode }},
		{api.ErrNone, func(b *book.Book) { b.Journals[0].Lines[0].Account = 11 }},
		{api.ErrNone, func(b *book.Book) { b.Journals[0].Lines[0].Account = 0 }},
		{api.ErrNone, func(b *book.Book) { b.Journals[0].Lines[0].Counter = 2 }},
		{api.ErrNone, func(b *book.Book) { b.Units = unit.Units{1, 3} }},
		{api.ErrDeep, func(b *book.Book) { b.Chart[0].Parent = 300 }},
		{api.ErrDeep, func(b *book.Book) { b.Chart = deep(api.MaxDeep + 1) }},
		{api.ErrDay, func(b *book.Book) { b.Calendar.Starts[0] = first - 1 }},
		{api.ErrDay, func(b *book.Book) { b.Calendar.End = last + 1 }},
		{api.ErrDay, func(b *book.Book) { b.Journals[0].Day = -32 }},
		{api.ErrDay, func(b *book.Book) { b.Journals[1].Day = 200 }},
		{api.ErrDay, func(b *book.Book) { b.Journals[1].Day = math.MaxInt32 }},
		{api.ErrSum, func(b *book.Book) { b.Journals[0].Lines[0].Amount = 99 }},
		{api.ErrSum, func(b *book.Book) { b.Journals[0].Lines[0].Entity = 3 }},
	}
}

// Each error of the book's Check.
func TestP11_2Check(t *testing.T) {
	seen := map[api.Errno]bool{}
	for at, x := range wrongs() {
		b := changed(small(), x.change)
		if e := b.Check(); e != x.e {
			t.Errorf("Check at %d: %d, not %d", at, e, x.e)
		}
		seen[x.e] = true
		holdError(t, written(b), x.e)
		// ErrRest is ahead of it, and so are ErrShort, and ErrForm of the last number.
		holdError(t, append(written(b), 0), api.ErrRest)
		holdError(t, written(b)[:len(written(b))-1], api.ErrShort)
		l := laid(b)
		holdError(t, instead(l, len(l)-1, []byte{0x80, 0x00}), api.ErrForm)
		// Where two are wrong, it is the one that Check tells. What the first one took away the second one can't change.
		for _, y := range wrongs()[at+1:] {
			both := changed(b, func(b *book.Book) {
				if len(b.Calendar.Starts) == 3 && len(b.Units) == 3 && len(b.Journals[1].Lines) == 3 && len(b.Chart) == 3 {
					y.change(b)
				}
			})
			holdError(t, written(both), both.Check())
		}
	}
	if len(seen) != 9 {
		t.Errorf("books have errors %v", seen)
	}
	holdError(t, written(book.Book{}), api.ErrSize)
	holdError(t, written(book.Book{Frame: book.Frame{Calendar: calendar.Calendar{Starts: []day.Day{}, End: 5}}}), api.ErrSize)
}

// Of two numbers that are wrong it is the left one's error, whatever the other one's is, and whatever is behind them.
func TestP11_2TheLeftOneIsTold(t *testing.T) {
	l := laid(small())
	wrong := func(p piece) map[api.Errno][]byte {
		all := map[api.Errno][]byte{api.ErrForm: padded(value(p), 7)}
		if p.what != "amount" {
			all[api.ErrRange] = binary.AppendUvarint(nil, mosts()[p.what]+1)
		}
		return all
	}
	for at, p := range l {
		if !p.number() {
			continue
		}
		for want, b := range wrong(p) {
			left := instead(l, at, b)
			holdError(t, append(left, 0), want)
			for later := at + 1; later < len(l); later++ {
				if !l[later].number() {
					continue
				}
				for _, other := range wrong(l[later]) {
					holdError(t, slices.Concat(joined(l[:at]), b, joined(l[at+1:later]), other, joined(l[later+1:])), want)
				}
			}
			// What the book's Check would tell comes behind it.
			for _, x := range wrongs() {
				if other := laid(changed(small(), x.change)); len(other) == len(l) {
					holdError(t, slices.Concat(joined(other[:at]), b, joined(other[at+1:])), want)
				}
			}
		}
	}
}

// ErrSize is ahead of all, ErrShort of fewer than four bytes ahead of ErrForm, that ahead of all numbers'.
func TestP11_2WhichIsFirst(t *testing.T) {
	for _, x := range []struct {
		b    string
		want api.Errno
	}{
		{"58 58 58", api.ErrShort},
		{"58 58 58 58", api.ErrForm},
		{"58 52 50 31 ff", api.ErrForm},
		{"58 52 50 31 80 00", api.ErrForm},
		{"58 52 50 31 ff 01", api.ErrForm},
		{"58 52 50 31 00 00 01 00 02 00", api.ErrForm},
		{"58 52 50 31 00 00 01 00 02 00 00", api.ErrForm},
		{"54 52 50 31 c9 01", api.ErrRange},
		{"54 52 50 31 c9 01 00 00", api.ErrRange},
		{"54 52 50 31 c9", api.ErrShort},
		{"54 52 50 31 c9 81 00", api.ErrForm},
		{"54 52 50 31 c8 01", api.ErrShort},
		{"54 52 50 31 01 80 00 00", api.ErrShort},
		{"54 52 50 31 01 80 00 00 00", api.ErrForm},
		{"54 52 50 31 01 ff ff ff", api.ErrShort},
		{"54 52 50 31 01 ff ff ff 7f", api.ErrRange},
		{"54 52 50 31 01 ff ff ff ff", api.ErrShort},
		{"54 52 50 31 01 01 1f 6e 00", api.ErrRange},
		{"54 52 50 31 01 01 1e 6e 00", api.ErrShort},
		{"54 52 50 31 00 29", api.ErrRange},
		{"54 52 50 31 00 28", api.ErrShort},
		{"54 52 50 31 00 00 3d", api.ErrRange},
		{"54 52 50 31 00 00 3c", api.ErrShort},
		{"54 52 50 31 00 00 00", api.ErrShort},
		{"54 52 50 31 00 00 00 00", api.ErrShort},
		{"54 52 50 31 00 00 00 00 00", api.ErrSize},
		{"54 52 50 31 00 00 00 00 00 00", api.ErrRest},
		{"54 52 50 31 00 00 01 00 02 d1 0f", api.ErrRange},
		{"54 52 50 31 00 00 01 00 02 d0 0f", api.ErrShort},
		{"54 52 50 31 00 00 01 00 02 01 00 3d", api.ErrRange},
		{"54 52 50 31 00 00 01 00 02 01 00 3c", api.ErrShort},
		{"54 52 50 31 00 00 01 00 02 01 00 00", api.ErrSize},
		{"54 52 50 31 00 00 01 00 02 01 00 01 01 01 00", api.ErrShort},
		{"54 52 50 31 00 00 01 00 02 01 00 01 01 01 00 02", api.ErrSum},
		{"54 52 50 31 00 00 01 00 02 01 00 02 01 01 00 02 01 01 00 01", api.ErrNone},
		{"54 52 50 31 00 00 01 00 02 01 00 02 01 01 00 02 01 01 00 01 00", api.ErrRest},
		{"54 52 50 31 00 00 01 00 00 00", api.ErrOrder},
	} {
		holdError(t, unhex(x.b), x.want)
	}
}
