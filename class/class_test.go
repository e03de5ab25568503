package class

import (
	"fmt"
	"math"
	"slices"
	"sync"
	"testing"

	"transposal/api"
	"transposal/calendar"
	"transposal/day"
	"transposal/script"
)

// told is what a kind has to say for itself: can it be turned back, is it about entities, which of its numbers count.
type told struct {
	kind  script.Kind
	back  bool
	unit  bool
	from  bool
	to    bool
	parts bool
}

// kinds: all, in chapter 13's order.
func kinds() []told {
	return []told{
		{kind: script.Renumber, back: true, from: true, to: true},
		{kind: script.Rename, back: true, from: true},
		{kind: script.Reparent, back: true, from: true, to: true},
		{kind: script.Merge, from: true, to: true},
		{kind: script.Split, from: true, parts: true},
		{kind: script.Recode, back: true, unit: true, from: true, to: true},
		{kind: script.Join, unit: true, from: true, to: true},
		{kind: script.Periods, back: true},
	}
}

// noKinds: numbers that are no kind's; some would be one, were they looked at by their lowest bits, or without their sign.
func noKinds() []script.Kind {
	l := []script.Kind{script.Kinds, script.Kinds + 1, -1, -2, math.MaxInt, math.MaxInt - 1, math.MinInt, math.MinInt + 1}
	for k := range script.Kinds {
		l = append(l, -1-k, math.MinInt+k, math.MaxInt-k, script.Kinds+k)
		for bit := 3; bit < 63; bit++ {
			l = append(l, 1<<bit+k, -1<<bit+k, -1<<bit-k)
		}
	}
	return l
}

// full: an op of a kind that has something else in each of its fields.
func full(k script.Kind) script.Op {
	return script.Op{
		Kind: k, From: 11, To: 12, Name: "13", Parts: []script.Part{{Code: 21, Weight: 31}, {Code: 22, Weight: 32}, {Code: 23, Weight: 33}},
		Calendar: calendar.Calendar{Starts: []day.Day{41, 42}, End: 43}, At: 51,
	}
}

// roomy: a list with marks in its spare room; what is called tells whether it, and they, are as they were.
func roomy[T comparable](l []T, mark T) ([]T, func() bool) {
	if l == nil {
		return nil, func() bool { return true }
	}
	room := append(slices.Clone(l), mark, mark, mark)
	were := slices.Clone(room)
	return room[:len(l)], func() bool { return slices.Equal(room, were) }
}

// mark: a number that spare rooms have, so that a look beyond a list's end would be seen.
const mark = 77

// guard: an op with marks in all spare rooms.
func guard(o script.Op) (script.Op, func() bool) {
	parts, sameParts := roomy(o.Parts, script.Part{Code: mark, Weight: mark})
	starts, sameStarts := roomy(o.Calendar.Starts, mark)
	o.Parts, o.Calendar.Starts = parts, starts
	return o, func() bool { return sameParts() && sameStarts() }
}

// guardAll: ops with marks in all spare rooms, behind the last of them, too: there stand some that can't be turned back.
func guardAll(l []script.Op) ([]script.Op, func() bool) {
	var looks []func() bool
	room := make([]script.Op, 0, len(l)+2)
	for _, o := range l {
		guarded, same := guard(o)
		room, looks = append(room, guarded), append(looks, same)
	}
	room = append(room, script.Op{Kind: script.Join, From: 7, To: 77}, script.Op{Kind: -7, Name: "mark"})
	were := fmt.Sprintf("%#v", room)
	return room[:len(l)], func() bool {
		return fmt.Sprintf("%#v", room) == were && !slices.ContainsFunc(looks, func(look func() bool) bool { return !look() })
	}
}

// holdBack holds Lossless of an op, and Lossy of it alone; it stays as it was.
func holdBack(t *testing.T, o script.Op, want bool) {
	t.Helper()
	was := fmt.Sprintf("%#v", o)
	guarded, same := guard(o)
	for range 2 {
		if got := Lossless(guarded); got != want {
			t.Errorf("Lossless of %v: %t", o, got)
		}
	}
	place := 0
	if want {
		place = -1
	}
	holdPlace(t, []script.Op{o}, place)
	if !same() || fmt.Sprintf("%#v", guarded) != was {
		t.Errorf("Lossless of %v changed it", o)
	}
}

// holdPlace holds Lossy of ops; they stay as they were.
func holdPlace(t *testing.T, l []script.Op, want int) {
	t.Helper()
	guarded, same := guardAll(l)
	for range 2 {
		if got := Lossy(guarded); got != want {
			t.Errorf("Lossy of %v: %d, not %d", l, got, want)
		}
	}
	if !same() {
		t.Errorf("Lossy of %v changed them", l)
	}
}

// asked: numbers that an op may be asked about: each that it has anywhere, and what is near, or like, these.
func asked(o script.Op) []uint32 {
	near := []uint32{0, o.From, o.To, uint32(o.At), uint32(o.Kind), uint32(o.Calendar.End), uint32(len(o.Parts)), mark, api.MaxEntity, api.MaxCode}
	for _, p := range o.Parts {
		near = append(near, p.Code, uint32(p.Weight))
	}
	for _, start := range o.Calendar.Starts {
		near = append(near, uint32(start))
	}
	l := []uint32{1<<31 - 1, math.MaxUint32}
	for _, n := range near {
		l = append(l, n-1, n, n+1, n<<16, n>>16, n&0xffff, -n, ^n)
		for bit := range 32 {
			l = append(l, n^1<<bit)
		}
	}
	return l
}

// hold holds Touches of an op: asked so, it has to do with these numbers, and with no others; asked otherwise, with none. It stays as it was.
func hold(t *testing.T, o script.Op, unit bool, numbers ...uint32) {
	t.Helper()
	was := fmt.Sprintf("%#v", o)
	guarded, same := guard(o)
	for _, n := range append(asked(o), numbers...) {
		if got, want := Touches(guarded, unit, n), slices.Contains(numbers, n); got != want {
			t.Errorf("Touches of %v, %t, %d: %t", o, unit, n, got)
		}
		if Touches(guarded, !unit, n) {
			t.Errorf("Touches of %v, %t, %d", o, !unit, n)
		}
	}
	if !same() || fmt.Sprintf("%#v", guarded) != was {
		t.Errorf("Touches of %v changed it", o)
	}
}

// holdNone: asked in either way, an op has to do with no number.
func holdNone(t *testing.T, o script.Op) {
	t.Helper()
	hold(t, o, false)
	hold(t, o, true)
}

func TestP16_1Example(t *testing.T) {
	holdBack(t, script.Op{Kind: script.Merge, From: 3, To: 2}, false)
	holdBack(t, script.Op{Kind: script.Merge}, false)
}

// Lossless of each kind: by its kind alone, whatever there is beside it.
func TestP16_1Lossless(t *testing.T) {
	for _, x := range kinds() {
		holdBack(t, script.Op{Kind: x.kind}, x.back)
		holdBack(t, full(x.kind), x.back)
		holdBack(t, script.Op{Kind: x.kind, From: 5, To: 5}, x.back)
		holdBack(t, script.Op{Kind: x.kind, From: math.MaxUint32, To: math.MaxUint32, At: math.MinInt}, x.back)
		holdBack(t, script.Op{Kind: x.kind, From: 1, Parts: []script.Part{{Code: 2, Weight: 1}}}, x.back)
		holdBack(t, script.Op{Kind: x.kind, Parts: []script.Part{}, Calendar: calendar.Calendar{Starts: []day.Day{}}}, x.back)
	}
	if len(kinds()) != int(script.Kinds) {
		t.Errorf("%d kinds are looked at, not %d", len(kinds()), script.Kinds)
	}
}

func TestP16_1LosslessOfNoKind(t *testing.T) {
	for _, k := range noKinds() {
		if k >= 0 && k < script.Kinds {
			t.Fatalf("%d is a kind", k)
		}
		holdBack(t, script.Op{Kind: k}, false)
		holdBack(t, full(k), false)
	}
}

// lossless: so many ops that can be turned back, of each kind that can.
func lossless(many int) []script.Op {
	var l []script.Op
	for i := range many {
		k := []script.Kind{script.Renumber, script.Periods, script.Rename, script.Recode, script.Reparent}[i%5]
		o := full(k)
		// Where it stands in a text, and where in the list, are two things.
		o.At = 1000 - i
		l = append(l, o)
	}
	return l
}

func TestP16_1LossyOfNone(t *testing.T) {
	holdPlace(t, nil, -1)
	holdPlace(t, []script.Op{}, -1)
	for many := range 12 {
		holdPlace(t, lossless(many), -1)
	}
	holdPlace(t, lossless(api.MaxOps), -1)
	holdPlace(t, lossless(10*api.MaxOps), -1)
	for _, x := range kinds() {
		if x.back {
			holdPlace(t, slices.Repeat([]script.Op{full(x.kind)}, 7), -1)
		}
	}
}

// Each that can't be turned back at each place: at the first, at each in the middle, at the last.
func TestP16_1LossyOfOne(t *testing.T) {
	for _, k := range []script.Kind{script.Merge, script.Split, script.Join, script.Kinds, -1, math.MaxInt, math.MinInt, 1 << 32} {
		for _, many := range []int{1, 2, 3, 5, 8} {
			for at := range many {
				l := lossless(many)
				l[at].Kind = k
				holdPlace(t, l, at)
				l[at] = script.Op{Kind: k}
				holdPlace(t, l, at)
			}
		}
		for _, at := range []int{0, 1, api.MaxOps / 2, api.MaxOps - 2, api.MaxOps - 1} {
			l := lossless(api.MaxOps)
			l[at].Kind = k
			holdPlace(t, l, at)
		}
	}
}

// Of two, and of all, that can't be turned back the first one counts.
func TestP16_1LossyOfMany(t *testing.T) {
	bad := []script.Kind{script.Merge, script.Split, script.Join, script.Kinds, -1}
	for first := range 6 {
		for second := first + 1; second < 7; second++ {
			for _, a := range bad {
				for _, b := range bad {
					l := lossless(7)
					l[first].Kind, l[second].Kind = a, b
					holdPlace(t, l, first)
				}
			}
		}
	}
	for _, k := range bad {
		holdPlace(t, slices.Repeat([]script.Op{full(k)}, 5), 0)
		holdPlace(t, append(lossless(3), slices.Repeat([]script.Op{full(k)}, 5)...), 3)
	}
}

// Of each kind that has something else in each field, by hand.
func TestP16_1TouchesOfFull(t *testing.T) {
	hold(t, full(script.Renumber), false, 11, 12)
	hold(t, full(script.Rename), false, 11)
	hold(t, full(script.Reparent), false, 11, 12)
	hold(t, full(script.Merge), false, 11, 12)
	hold(t, full(script.Split), false, 11, 21, 22, 23)
	hold(t, full(script.Recode), true, 11, 12)
	hold(t, full(script.Join), true, 11, 12)
	holdNone(t, full(script.Periods))
	for _, k := range noKinds() {
		holdNone(t, full(k))
	}
}

// Of each kind that has nothing in any field: 0 is a number as others.
func TestP16_1TouchesOfNoughts(t *testing.T) {
	for _, x := range kinds() {
		if x.from {
			hold(t, script.Op{Kind: x.kind}, x.unit, 0)
		} else {
			holdNone(t, script.Op{Kind: x.kind})
		}
	}
	for _, k := range noKinds() {
		holdNone(t, script.Op{Kind: k})
	}
}

// counting: of a kind's numbers those that count.
func (x told) counting(from, to uint32) []uint32 {
	var l []uint32
	if x.from {
		l = append(l, from)
	}
	if x.to {
		l = append(l, to)
	}
	return l
}

// Numbers at all edges, as From, as To, as both.
func TestP16_1TouchesOfNumbers(t *testing.T) {
	numbers := []uint32{0, 1, 2, api.MaxEntity - 1, api.MaxEntity, api.MaxEntity + 1, api.MaxCode - 1, api.MaxCode, api.MaxCode + 1, 1<<16 - 1, 1 << 16, 1<<16 + 1, 1<<31 - 1, 1 << 31, math.MaxUint32 - 1, math.MaxUint32}
	for _, x := range kinds() {
		for _, from := range numbers {
			for _, to := range numbers {
				hold(t, script.Op{Kind: x.kind, From: from, To: to}, x.unit, x.counting(from, to)...)
			}
		}
	}
}

// Numbers that are alike but for one bit, what goes beyond 16 bits too.
func TestP16_1TouchesBitByBit(t *testing.T) {
	for _, x := range kinds() {
		for bit := range 32 {
			for _, n := range []uint32{0, 5, api.MaxEntity, api.MaxCode, math.MaxUint32} {
				other := n ^ 1<<bit
				hold(t, script.Op{Kind: x.kind, From: n, To: other}, x.unit, x.counting(n, other)...)
				hold(t, script.Op{Kind: x.kind, From: n, To: n}, x.unit, x.counting(n, n)...)
				if x.parts {
					hold(t, script.Op{Kind: x.kind, From: n, Parts: []script.Part{{Code: other, Weight: 1}}}, x.unit, n, other)
				}
			}
		}
	}
}

// Renamed or split, a To doesn't count, but where it is the From, or a part.
func TestP16_1TouchesOfNoTo(t *testing.T) {
	for _, to := range []uint32{0, 1, 8, api.MaxCode, math.MaxUint32} {
		hold(t, script.Op{Kind: script.Rename, From: 7, To: to, Name: "Cash"}, false, 7)
		hold(t, script.Op{Kind: script.Split, From: 7, To: to, Parts: []script.Part{{Code: 9, Weight: 1}}}, false, 7, 9)
		hold(t, script.Op{Kind: script.Split, From: 7, To: to}, false, 7)
	}
	hold(t, script.Op{Kind: script.Rename, From: 7, To: 7}, false, 7)
	hold(t, script.Op{Kind: script.Split, From: 7, To: 9, Parts: []script.Part{{Code: 9, Weight: 1}}}, false, 7, 9)
}

// Split into so many: each part counts, at whatever place; no weight does.
func TestP16_1TouchesOfParts(t *testing.T) {
	hold(t, script.Op{Kind: script.Split, From: 1}, false, 1)
	hold(t, script.Op{Kind: script.Split, From: 1, Parts: []script.Part{}}, false, 1)
	hold(t, script.Op{Kind: script.Split, From: 1, Parts: []script.Part{{}}}, false, 1, 0)
	for _, many := range []int{1, 2, 3, api.MaxParts, api.MaxParts + 1, 40} {
		o := script.Op{Kind: script.Split, From: 5000}
		counting := []uint32{5000}
		for i := range many {
			o.Parts = append(o.Parts, script.Part{Code: uint32(9000 - 7*i), Weight: int64(300 + 11*i)})
			counting = append(counting, o.Parts[i].Code)
		}
		hold(t, o, false, counting...)
	}
	// As they stand: neither ordered, nor each once, nor other than From.
	hold(t, script.Op{Kind: script.Split, From: 6, Parts: []script.Part{{Code: 9, Weight: 3}, {Code: 6, Weight: 4}, {Code: 2, Weight: 5}, {Code: 9, Weight: 1}}}, false, 2, 6, 9)
	// What a part's weight is doesn't matter, be it what it may.
	for _, weight := range []int64{0, 1, -1, 8, api.MaxWeight, api.MaxWeight + 1, math.MaxInt64, math.MinInt64, 1 << 32, 1<<32 + 8} {
		hold(t, script.Op{Kind: script.Split, From: 6, Parts: []script.Part{{Code: 9, Weight: weight}, {Code: math.MaxUint32, Weight: weight}}}, false, 6, 9, math.MaxUint32)
	}
}

// Other kinds may have parts all the same: these don't count.
func TestP16_1TouchesOfNoParts(t *testing.T) {
	for _, x := range kinds() {
		if !x.parts {
			o := script.Op{Kind: x.kind, From: 11, To: 12, Parts: []script.Part{{Code: 21, Weight: 1}, {Code: 0, Weight: 2}, {Code: math.MaxUint32, Weight: 3}}}
			hold(t, o, x.unit, x.counting(11, 12)...)
		}
	}
	for _, k := range noKinds() {
		holdNone(t, script.Op{Kind: k, Parts: []script.Part{{Code: 21, Weight: 1}}})
	}
}

// A calendar has to do with no number, whatever there is in the op's fields.
func TestP16_1TouchesOfCalendars(t *testing.T) {
	for _, n := range []uint32{0, 1, 7, 31, api.MaxEntity, api.MaxCode, math.MaxUint32} {
		holdNone(t, script.Op{Kind: script.Periods, From: n, To: n, Parts: []script.Part{{Code: n, Weight: int64(n)}}, Calendar: calendar.Calendar{Starts: []day.Day{0, 7}, End: 31}})
	}
}

// What is of no kind has to do with no number: it is about neither.
func TestP16_1TouchesOfNoKind(t *testing.T) {
	for _, k := range noKinds() {
		for _, n := range []uint32{0, 1, math.MaxUint32} {
			holdNone(t, script.Op{Kind: k, From: n, To: n, Parts: []script.Part{{Code: n, Weight: 1}}})
		}
	}
}

// What a kind doesn't tell is nothing to it: be it there or not, the answers are the same.
func TestP16_1FieldsOfOthers(t *testing.T) {
	for _, x := range kinds() {
		bare := script.Op{Kind: x.kind, From: 11}
		if x.to {
			bare.To = 12
		}
		if x.parts {
			bare.Parts = full(x.kind).Parts
		}
		if Lossless(bare) != Lossless(full(x.kind)) {
			t.Errorf("Lossless of %v hangs on what it doesn't tell", bare)
		}
		for _, unit := range []bool{false, true} {
			for _, n := range append(asked(full(x.kind)), asked(bare)...) {
				if Touches(bare, unit, n) != Touches(full(x.kind), unit, n) {
					t.Errorf("Touches of %v, %t, %d hangs on what it doesn't tell", bare, unit, n)
				}
			}
		}
	}
}

// Asked at the same time, many times, of the same ops: the answers stay.
func TestP16_1AtTheSameTime(t *testing.T) {
	l := append(lossless(20), full(script.Split), full(script.Join))
	var group sync.WaitGroup
	for range 8 {
		group.Go(func() {
			for range 200 {
				if Lossy(l) != 20 || Lossless(l[20]) || !Lossless(l[0]) || !Touches(l[20], false, 23) || Touches(l[20], true, 23) || !Touches(l[21], true, 12) {
					t.Error("other answers at the same time")
				}
			}
		})
	}
	group.Wait()
}
