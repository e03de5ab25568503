package codec

import (
	"bytes"
	"encoding/binary"
	"math"
	"math/rand"
	"slices"
	"sync"
	"testing"

	"transposal/api"
	"transposal/book"
	"transposal/chart"
	"transposal/day"
	"transposal/entry"
	"transposal/unit"
)

// stop is what a teller panics with.
type stop struct{ e api.Errno }

// teller tells what bytes are decoded as in another way: by the library's numbers, and a panic at what is wrong.
type teller struct{ b []byte }

// number: the next one, up to a greatest one.
func (x *teller) number(what string) uint64 {
	n, size := binary.Uvarint(x.b)
	switch {
	case size < 0, size == 0 && len(x.b) >= binary.MaxVarintLen64:
		panic(stop{api.ErrForm})
	case size == 0:
		panic(stop{api.ErrShort})
	case !bytes.Equal(binary.AppendUvarint(nil, n), x.b[:size]):
		panic(stop{api.ErrForm})
	case n > mosts()[what]:
		panic(stop{api.ErrRange})
	}
	x.b = x.b[size:]
	return n
}

// signed: the next one, with a sign.
func (x *teller) signed(what string) int64 {
	n, _ := binary.Varint(binary.AppendUvarint(nil, x.number(what)))
	return n
}

// each: as many times as are told, if there are bytes enough.
func (x *teller) each(what string, least uint64, read func()) {
	n := x.number(what)
	if uint64(len(x.b)) < n*least {
		panic(stop{api.ErrShort})
	}
	for range n {
		read()
	}
}

// book: all that bytes tell.
func (x *teller) book() (b book.Book) {
	x.each("accounts", 4, func() {
		a := chart.Account{Code: uint32(x.number("code"))}
		x.each("letters", 1, func() {
			a.Name += string(x.b[:1])
			x.b = x.b[1:]
		})
		a.Kind, a.Parent = chart.Kind(x.number("kind")), uint32(x.number("parent"))
		b.Chart = append(b.Chart, a)
	})
	x.each("entities", 1, func() { b.Units = append(b.Units, uint16(x.number("entity"))) })
	x.each("starts", 1, func() { b.Calendar.Starts = append(b.Calendar.Starts, day.Day(x.signed("start"))) })
	b.Calendar.End = day.Day(x.signed("end"))
	x.each("journals", 2, func() {
		j := entry.Journal{Day: day.Day(x.signed("day"))}
		x.each("lines", 4, func() {
			l := entry.Line{Account: uint32(x.number("on"))}
			l.Entity, l.Counter, l.Amount = uint16(x.number("of")), uint16(x.number("with")), x.signed("amount")
			j.Lines = append(j.Lines, l)
		})
		b.Journals = append(b.Journals, j)
	})
	return b
}

// told: what bytes must be decoded as.
func told(b []byte) (is book.Book, e api.Errno) {
	defer func() {
		if r := recover(); r != nil {
			is, e = book.Book{}, r.(stop).e
		}
	}()
	switch {
	case len(b) > api.MaxBytes:
		return book.Book{}, api.ErrSize
	case len(b) < 4:
		return book.Book{}, api.ErrShort
	case b[0] != 'T' || b[1] != 'R' || b[2] != 'P' || b[3] != '1':
		return book.Book{}, api.ErrForm
	}
	x := &teller{b[4:]}
	is = x.book()
	if len(x.b) > 0 {
		return book.Book{}, api.ErrRest
	}
	if e = is.Check(); e != api.OK {
		return book.Book{}, e
	}
	return is, api.OK
}

// holdTold holds bytes against what they must be decoded as, be it a book or an error, and answers the error.
func holdTold(t *testing.T, b []byte) api.Errno {
	t.Helper()
	want, e := told(b)
	if e == api.OK {
		holdBytes(t, b, want)
	} else {
		holdError(t, b, e)
	}
	return e
}

// chance: a book by chance, that may be.
func chance(r *rand.Rand) book.Book {
	b := bare()
	b.Calendar.Starts, b.Calendar.End = nil, day.Day(r.Intn(20000)-10000)
	for range 1 + r.Intn(5) {
		b.Calendar.Starts = append(b.Calendar.Starts, b.Calendar.End)
		b.Calendar.End += 1 + day.Day(r.Intn(1<<r.Intn(18)))
	}
	for code := range r.Intn(6) {
		a := chart.Account{Code: uint32(code*1000 + 1 + r.Intn(1<<r.Intn(10))), Name: name(r), Kind: chart.Kind(r.Intn(int(chart.Kinds)))}
		if len(b.Chart) > 0 && r.Intn(2) == 0 {
			in := b.Chart[r.Intn(len(b.Chart))]
			a.Kind, a.Parent = in.Kind, in.Code
		}
		b.Chart = append(b.Chart, a)
	}
	for n := range r.Intn(6) {
		b.Units = append(b.Units, uint16(n*150+1+r.Intn(150)))
	}
	if len(b.Chart) > 0 && len(b.Units) > 0 {
		for range r.Intn(5) {
			b.Journals = append(b.Journals, entry.Journal{Day: b.Calendar.Starts[0] + day.Day(r.Intn(int(b.Calendar.End-b.Calendar.Starts[0]))), Lines: lines(r, b)})
		}
		slices.SortFunc(b.Journals, func(x, y entry.Journal) int { return int(x.Day - y.Day) })
	}
	return b
}

// name: one by chance, that may be.
func name(r *rand.Rand) string {
	const letters = "abcXYZ019. "
	s := "n"
	for range r.Intn(api.MaxName - 1) {
		s += string(letters[r.Intn(len(letters))])
	}
	return s[:len(s)-1] + "m"
}

// lines: some by chance, that may be a journal's of a book.
func lines(r *rand.Rand, b book.Book) []entry.Line {
	var l []entry.Line
	for range 1 + r.Intn(5) {
		one := entry.Line{Account: b.Chart[r.Intn(len(b.Chart))].Code, Entity: b.Units[r.Intn(len(b.Units))], Amount: 1 + r.Int63()>>r.Intn(63)>>1}
		if r.Intn(2) == 0 {
			one.Counter = b.Units[r.Intn(len(b.Units))]
		}
		l = append(l, one)
		one.Amount, one.Account = -one.Amount, b.Chart[r.Intn(len(b.Chart))].Code
		l = append(l, one)
	}
	r.Shuffle(len(l), func(x, y int) { l[x], l[y] = l[y], l[x] })
	return l
}

func TestP11_3BooksByChance(t *testing.T) {
	r := rand.New(rand.NewSource(11))
	for range 3000 {
		b := chance(r)
		holdBook(t, b)
		if e := holdTold(t, written(b)); e != api.OK {
			t.Fatalf("%s is decoded with %d", short(b), e)
		}
	}
}

// turned: bytes with something done to some of them.
func turned(r *rand.Rand, b []byte) []byte {
	b = slices.Clone(b)
	for range 1 + r.Intn(3) {
		// Mostly behind the beginning: there is one way to be right there.
		at := min(len(b), 4*min(1, r.Intn(20))+r.Intn(len(b)+1))
		till := min(len(b), at+1+r.Intn(1<<r.Intn(5)))
		some := []byte{0, 1, 2, 0x7f, 0x80, 0x81, 0xff, byte(r.Intn(256))}
		switch r.Intn(8) {
		case 0:
			b = slices.Delete(b, at, till)
		case 1:
			b = slices.Insert(b, at, some[r.Intn(len(some))])
		case 2:
			b = slices.Insert(b, at, b[at:till]...)
		case 3:
			b = slices.Insert(b, at, bytes.Repeat(some[r.Intn(len(some)):][:1], r.Intn(12))...)
		case 4:
			b = b[:max(at, r.Intn(len(b)+1))]
		default:
			if at < len(b) {
				b[at] = [4]byte{b[at] ^ 1<<r.Intn(8), b[at] + 1, b[at] - 1, some[r.Intn(len(some))]}[r.Intn(4)]
			}
		}
	}
	return b
}

// A book's bytes, with some turned, cut out or put in.
func TestP11_2TurnedBytes(t *testing.T) {
	r := rand.New(rand.NewSource(12))
	seen := map[api.Errno]int{}
	for range 30000 {
		b := written(chance(r))
		if r.Intn(5) == 0 {
			b = written(small())
		}
		seen[holdTold(t, turned(r, b))]++
	}
	// Each error but those that hardly come by chance.
	for _, e := range []api.Errno{api.OK, api.ErrForm, api.ErrShort, api.ErrRest, api.ErrRange, api.ErrOrder, api.ErrNone, api.ErrKind, api.ErrName, api.ErrDay, api.ErrSum} {
		if seen[e] < 20 {
			t.Errorf("turned bytes have errors %v", seen)
		}
	}
}

// Each byte of a small book's turned into each other one, cut out, put in.
func TestP11_2EachByteTurned(t *testing.T) {
	whole := written(small())
	for at := range whole {
		for other := range 256 {
			b := slices.Clone(whole)
			b[at] = byte(other)
			holdTold(t, b)
			holdTold(t, slices.Insert(slices.Clone(whole), at, byte(other)))
		}
		for till := at + 1; till <= len(whole); till++ {
			holdTold(t, slices.Delete(slices.Clone(whole), at, till))
		}
	}
}

// All bytes of few numbers, behind the beginning.
func TestP11_2FewBytes(t *testing.T) {
	some := []byte{0, 1, 2, 3, 0x40, 0x7f, 0x80, 0xff}
	for size := range 7 {
		b := append([]byte("TRP1"), make([]byte, size)...)
		for n := range 1 << (3 * size) {
			for at := range size {
				b[4+at] = some[n>>(3*at)&7]
			}
			want, e := told(b)
			if got, other := Decode(b); other != e || !book.Same(got, want) {
				t.Fatalf("Decode of %x: %d, not %d", b, other, e)
			}
		}
	}
}

// Bytes by chance, behind the beginning, or with none.
func TestP11_2BytesByChance(t *testing.T) {
	r := rand.New(rand.NewSource(13))
	for n := range 30000 {
		b := make([]byte, r.Intn(60))
		// Small ones, so that it isn't the first number at once that is wrong.
		for at := range b {
			b[at] = byte(r.Intn(256)) >> r.Intn(8)
		}
		if n%10 > 0 {
			b = append([]byte("TRP1"), b...)
		}
		holdTold(t, b)
	}
	for range 20 {
		b := make([]byte, api.MaxBytes-2+r.Intn(5))
		r.Read(b)
		copy(b, "TRP1")
		holdTold(t, b)
	}
}

// FuzzDecode holds bytes against what is gathered of them another way.
func FuzzDecode(f *testing.F) {
	f.Add(written(bare()))
	f.Add(written(small()))
	f.Add(written(paying(math.MaxInt64, -math.MaxInt64)))
	f.Fuzz(func(t *testing.T, b []byte) { holdTold(t, b) })
}

// All numbers that go into two bytes, and some of each length beside the edges: what is put is read as it was.
func TestP11_3Numbers(t *testing.T) {
	check := func(n uint64) {
		b := putNumber(nil, n)
		got, size, e := firstNumber(append(slices.Clone(b), 0xff))
		if got != n || size != len(b) || e != api.OK || !bytes.Equal(b, binary.AppendUvarint(nil, n)) {
			t.Fatalf("%d is put as %x, and read as %d, %d, %d", n, b, got, size, e)
		}
		s := int64(n)
		b = putSigned(nil, s)
		twice, _ := binary.Uvarint(b)
		if !bytes.Equal(b, binary.AppendVarint(nil, s)) || signed(twice) != s {
			t.Fatalf("%d is put as %x", s, b)
		}
	}
	for n := range uint64(1 << 15) {
		check(n)
		check(-n)
	}
	for bit := range 64 {
		for off := uint64(0); off < 300; off++ {
			check(1<<bit + off)
			check(1<<bit - off)
		}
	}
}

// R5: the bytes that are handed in are not kept: they may change later.
func TestP2DecodeKeepsNoBytes(t *testing.T) {
	b := written(small())
	got, e := Decode(b)
	for at := range b {
		b[at] = 'z'
	}
	if e != api.OK || !book.Same(got, small()) {
		t.Errorf("a book changed with its bytes: %s", short(got))
	}
}

// R5: what Encode answers is new memory, and the book isn't kept.
func TestP2EncodeKeepsNoBook(t *testing.T) {
	b := small()
	one, other := Encode(b), Encode(b)
	for at := range one {
		one[at] = 'z'
	}
	// Its spare room isn't the other one's either.
	_ = append(one, "zzzzzzzzzzzzzzzzzzzz"...)
	b.Chart[0].Code, b.Units[0], b.Calendar.Starts[0], b.Journals[0].Day, b.Journals[0].Lines[0].Amount = 9, 2, -32, 3, 7
	if !bytes.Equal(other, unhex(smallBytes)) {
		t.Errorf("bytes changed with others: %x", other)
	}
	if again := Encode(small()); !bytes.Equal(again, other) {
		t.Errorf("Encode by what was before: %x", again)
	}
}

// R5: books of the same bytes share nothing, and no two lists of one do.
func TestP2DecodedIsNewMemory(t *testing.T) {
	b := many(4)
	b.Journals[1].Lines = pairs(6)
	one, e := Decode(written(b))
	other, _ := Decode(written(b))
	if e != api.OK {
		t.Fatalf("Decode: %d", e)
	}
	for at := range one.Journals {
		j := &one.Journals[at]
		_ = append(j.Lines, pairs(60)...)
		if !book.Same(one, b) {
			t.Fatalf("what is put behind the lines at %d is in others", at)
		}
	}
	_ = append(one.Chart, flat(60)...)
	_ = append(one.Units, rising(40)...)
	_ = append(one.Calendar.Starts, even(60).Starts...)
	_ = append(one.Journals, many(60).Journals...)
	if !book.Same(one, b) {
		t.Fatal("what is put behind a list is in others")
	}
	for at := range one.Journals {
		for k := range one.Journals[at].Lines {
			l := &one.Journals[at].Lines[k]
			was := *l
			*l = entry.Line{Account: 7, Entity: 7, Counter: 7, Amount: 7}
			if !slices.Equal(one.Journals[(at+1)%4].Lines, b.Journals[(at+1)%4].Lines) {
				t.Fatal("lines of one journal are in another one")
			}
			*l = was
		}
	}
	one.Chart[0], one.Units[0], one.Calendar.Starts[0], one.Journals[0].Day, one.Journals[1].Lines[0].Amount = chart.Account{}, 9, 9, 9, 9
	if !book.Same(other, b) {
		t.Error("a book changed with another one of the same bytes")
	}
}

// R6: what is answered hangs on the arguments alone, not on what was called before, nor on who else calls.
func TestP2NothingIsKept(t *testing.T) {
	whole := written(small())
	var all sync.WaitGroup
	for n := range 8 {
		all.Go(func() {
			for range 50 {
				if _, e := Decode(whole[:len(whole)-1-n]); e != api.ErrShort {
					t.Errorf("Decode of a beginning: %d", e)
				}
				if got, e := Decode(whole); e != api.OK || !book.Same(got, small()) || !bytes.Equal(Encode(got), whole) {
					t.Errorf("Decode: %d", e)
				}
				if !bytes.Equal(Encode(bare()), unhex("54 52 50 31 00 00 01 00 02 00")) {
					t.Error("Encode of the chapter's book")
				}
			}
		})
	}
	all.Wait()
}

// P1: Encode of a book that may not be is promised nothing, but that Decode of all bytes ends: of those, too.
func TestP1DecodeEnds(t *testing.T) {
	r := rand.New(rand.NewSource(14))
	for range 300 {
		b := small()
		for range r.Intn(30) {
			b.Chart = append(b.Chart, chart.Account{Code: r.Uint32() >> r.Intn(32), Name: "n", Kind: chart.Kind(r.Intn(256)), Parent: r.Uint32() >> r.Intn(32)})
			b.Units = append(b.Units, uint16(r.Uint32()>>r.Intn(32)))
			b.Calendar.Starts = append(b.Calendar.Starts, day.Day(r.Uint32()>>r.Intn(32)))
			b.Journals = append(b.Journals, entry.Journal{Day: day.Day(r.Uint32() >> r.Intn(32)), Lines: []entry.Line{{Account: r.Uint32() >> r.Intn(32), Amount: r.Int63()}}})
		}
		holdTold(t, written(b))
	}
	ring := deep(9)
	ring[0].Parent = 9
	b := bare()
	b.Chart, b.Units = ring, unit.Units{1}
	holdError(t, written(b), api.ErrDeep)
	// How many there are is told greater than all bytes are.
	for _, n := range []uint64{1 << 20, 1 << 31, 1 << 32, 1 << 61, 1 << 62, 1 << 63, math.MaxUint64} {
		holdError(t, binary.AppendUvarint([]byte("TRP1"), n), api.ErrRange)
	}
}
