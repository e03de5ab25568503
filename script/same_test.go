package script

import (
	"math"
	"slices"
	"strings"
	"testing"

	"transposal/api"
	"transposal/calendar"
	"transposal/day"
)

// holdSame holds Same, both ways round, against what it must be; both lists stay as they were.
func holdSame(t *testing.T, a, b []Op, want bool) {
	t.Helper()
	one, unchanged := guardAll(a)
	other, same := guardAll(b)
	if Same(one, other) != want || Same(other, one) != want || Same(a, b) != want {
		t.Fatalf("Same of %.300v, %.300v: not %t", a, b, want)
	}
	if !unchanged() || !same() {
		t.Fatalf("Same of %.300v, %.300v changed them", a, b)
	}
}

// cloned: an op in other memory.
func cloned(o Op) Op {
	o.Name = strings.Clone(o.Name)
	o.Parts = slices.Clone(o.Parts)
	o.Calendar.Starts = slices.Clone(o.Calendar.Starts)
	return o
}

// clonedAll: ops in other memory.
func clonedAll(l []Op) []Op {
	var all []Op
	for _, o := range l {
		all = append(all, cloned(o))
	}
	return all
}

// holdChange holds that an op isn't the same any more, once a thing is changed: alone, and at each place of a list.
func holdChange(t *testing.T, o Op, change func(*Op)) {
	t.Helper()
	changed := cloned(o)
	change(&changed)
	holdSame(t, []Op{o}, []Op{changed}, false)
	for at := range 3 {
		l := []Op{full(Merge), full(Join), full(Split)}
		l[at] = cloned(o)
		other := clonedAll(l)
		holdSame(t, l, other, true)
		other[at] = changed
		holdSame(t, l, other, false)
	}
}

// holdNoChange holds that an op is still the same, once a thing is changed.
func holdNoChange(t *testing.T, o Op, change func(*Op)) {
	t.Helper()
	changed := cloned(o)
	change(&changed)
	holdSame(t, []Op{o}, []Op{changed}, true)
	holdSame(t, []Op{full(Merge), o, full(Split)}, []Op{full(Merge), changed, full(Split)}, true)
}

// each: ops with all fields told and with none, of each kind and of none.
func each() []Op {
	var l []Op
	for k := Kind(-1); k <= Kinds; k++ {
		l = append(l, full(k), Op{Kind: k})
	}
	return l
}

func TestP13_1SameOfTheSame(t *testing.T) {
	all := each()
	for n := range all {
		holdSame(t, all[:n], all[:n], true)
		holdSame(t, all[:n], clonedAll(all[:n]), true)
		holdSame(t, all[n:n+1], clonedAll(all[n:n+1]), true)
	}
	many := slices.Repeat(all, 100)
	holdSame(t, many, clonedAll(many), true)
}

// Where ops stand doesn't count, whatever it is.
func TestP13_1SameButForAt(t *testing.T) {
	for _, o := range each() {
		for _, at := range []int{0, 1, -1, 76, 78, math.MaxInt, math.MinInt} {
			holdNoChange(t, o, func(o *Op) { o.At = at })
		}
		for bit := range 64 {
			holdNoChange(t, o, func(o *Op) { o.At ^= 1 << bit })
		}
	}
	for _, o := range each() {
		one, other := o, o
		one.At, other.At = 3, 8
		holdSame(t, []Op{one, other}, []Op{other, one}, true)
	}
}

// Each bit of each number of an op counts, of whichever kind it is.
func TestP13_1SameOfNumbers(t *testing.T) {
	for _, o := range each() {
		for bit := range 64 {
			holdChange(t, o, func(o *Op) { o.Kind ^= 1 << bit })
		}
		for bit := range 32 {
			holdChange(t, o, func(o *Op) { o.From ^= 1 << bit })
			holdChange(t, o, func(o *Op) { o.To ^= 1 << bit })
			holdChange(t, o, func(o *Op) { o.Calendar.End ^= 1 << bit })
		}
	}
	holdChange(t, full(Merge), func(o *Op) { o.From, o.To = o.To, o.From })
	holdChange(t, full(Merge), func(o *Op) { o.From, o.To = o.From+1, o.To-1 })
}

// Each bit of each number of a list counts, at each of its places.
func TestP13_1SameOfLists(t *testing.T) {
	long := Op{Kind: Split, From: 1}
	for i := range api.MaxParts {
		long.Parts = append(long.Parts, Part{uint32(i + 2), int64(i + 1)})
	}
	for i := range api.MaxPeriods {
		long.Calendar.Starts = append(long.Calendar.Starts, day.Day(31*i))
	}
	for at := range long.Parts {
		for bit := range 32 {
			holdChange(t, long, func(o *Op) { o.Parts[at].Code ^= 1 << bit })
		}
		for bit := range 64 {
			holdChange(t, long, func(o *Op) { o.Parts[at].Weight ^= 1 << bit })
		}
		holdChange(t, long, func(o *Op) { o.Parts = slices.Delete(o.Parts, at, at+1) })
		holdChange(t, long, func(o *Op) { o.Parts = slices.Insert(o.Parts, at, o.Parts[at]) })
		holdChange(t, long, func(o *Op) { o.Parts = o.Parts[:at] })
		holdChange(t, long, func(o *Op) {
			next := (at + 1) % len(o.Parts)
			o.Parts[at], o.Parts[next] = o.Parts[next], o.Parts[at]
		})
	}
	holdChange(t, long, func(o *Op) { o.Parts[0].Weight, o.Parts[1].Weight = o.Parts[1].Weight, o.Parts[0].Weight })
	for at := range long.Calendar.Starts {
		for bit := range 32 {
			holdChange(t, long, func(o *Op) { o.Calendar.Starts[at] ^= 1 << bit })
		}
		holdChange(t, long, func(o *Op) { o.Calendar.Starts = slices.Delete(o.Calendar.Starts, at, at+1) })
		holdChange(t, long, func(o *Op) { o.Calendar.Starts = slices.Insert(o.Calendar.Starts, at, o.Calendar.Starts[at]) })
		holdChange(t, long, func(o *Op) { o.Calendar.Starts = o.Calendar.Starts[:at] })
		holdChange(t, long, func(o *Op) {
			next := (at + 1) % len(o.Calendar.Starts)
			o.Calendar.Starts[at], o.Calendar.Starts[next] = o.Calendar.Starts[next], o.Calendar.Starts[at]
		})
	}
	for _, o := range each() {
		holdChange(t, o, func(o *Op) { o.Parts = append(o.Parts, Part{}) })
		holdChange(t, o, func(o *Op) { o.Calendar.Starts = append(o.Calendar.Starts, 0) })
	}
	for k := range Kinds {
		holdChange(t, full(k), func(o *Op) { o.Parts = nil })
		holdChange(t, full(k), func(o *Op) { o.Calendar.Starts = nil })
		holdChange(t, full(k), func(o *Op) { o.Calendar = calendar.Calendar{} })
		holdChange(t, full(k), func(o *Op) { o.Name = "" })
	}
	// The last start and End are no one list.
	holdChange(t, full(Periods), func(o *Op) { o.Calendar = calendar.Calendar{Starts: []day.Day{0, 31, 59}} })
	holdChange(t, full(Periods), func(o *Op) { o.Calendar = calendar.Calendar{Starts: []day.Day{0}, End: 31} })
}

// Names count byte by byte, as they are.
func TestP13_1SameOfNames(t *testing.T) {
	names := []string{"", " ", "a", "A", "b", "aa", "a ", " a", "a  ", "a.", "ab", "ba", "é", "e\u0301", "e", "É", "\xff", "\xfe", "\ufffd", "\x00", "a\x00", "k", "K", "\u212a", "ß", "ss",
		strings.Repeat("a", 1000), strings.Repeat("a", 999) + "b", "b" + strings.Repeat("a", 999)}
	for i, a := range names {
		for k, b := range names {
			for kind := range Kinds {
				one, other := full(kind), full(kind)
				one.Name, other.Name = a, strings.Clone(b)
				holdSame(t, []Op{one}, []Op{other}, i == k)
			}
		}
	}
}

// How many ops there are, and their order, count.
func TestP13_1SameOfMany(t *testing.T) {
	all := each()
	for at := range all {
		fewer := slices.Delete(clonedAll(all), at, at+1)
		holdSame(t, all, fewer, false)
		holdSame(t, all, slices.Insert(clonedAll(all), at, all[at]), false)
		holdSame(t, all, all[:at], false)
		holdSame(t, all[at:], all, at == 0)
		for other := range all {
			swapped := clonedAll(all)
			swapped[at], swapped[other] = swapped[other], swapped[at]
			holdSame(t, all, swapped, at == other)
		}
	}
	holdSame(t, []Op{{}}, []Op{{}, {}}, false)
	holdSame(t, []Op{{}}, nil, false)
	holdSame(t, []Op{full(Join)}, []Op{full(Join), full(Join)}, false)
	turned := clonedAll(all)
	slices.Reverse(turned)
	holdSame(t, all, turned, false)
	// What stands in the spare room of one list counts in neither.
	holdSame(t, all[:3], all[:4], false)
	holdSame(t, all[:3:3], all[:3], true)
}

// Lists that are nil and such as are empty are alike, of ops, of parts, of starts.
func TestP13_1SameOfEmpty(t *testing.T) {
	holdSame(t, nil, nil, true)
	holdSame(t, nil, []Op{}, true)
	holdSame(t, []Op{}, make([]Op, 0, 5), true)
	holdSame(t, nil, each()[:0], true)
	partless := [][]Part{nil, {}, full(Split).Parts[:0]}
	startless := [][]day.Day{nil, {}, full(Periods).Calendar.Starts[:0]}
	for _, o := range each() {
		for _, parts := range partless {
			for _, starts := range startless {
				var l []Op
				for _, otherParts := range partless {
					for _, otherStarts := range startless {
						other := o
						other.Parts, other.Calendar.Starts = otherParts, otherStarts
						l = append(l, other)
					}
				}
				o.Parts, o.Calendar.Starts = parts, starts
				for _, other := range l {
					// Not by way of holdSame alone: what it hands in is never nil.
					if !Same([]Op{o}, []Op{other}) || !Same([]Op{other}, []Op{o}) {
						t.Fatalf("Same of %#v, %#v: false", o, other)
					}
				}
			}
		}
	}
}

// All pairs of ops whose fields are of a few values each: the same just where all fields are.
func TestP13_1SameEach(t *testing.T) {
	var all []Op
	for _, k := range []Kind{Renumber, Split, Kinds} {
		for _, from := range []uint32{0, 1} {
			for _, to := range []uint32{0, 1} {
				for _, name := range []string{"", "a"} {
					for _, parts := range [][]Part{nil, {{0, 0}}, {{0, 1}}, {{1, 0}}, {{0, 1}, {1, 0}}} {
						for _, c := range []calendar.Calendar{{}, {End: 1}, {Starts: []day.Day{0}}, {Starts: []day.Day{0}, End: 1}, {Starts: []day.Day{0, 1}}} {
							all = append(all, Op{Kind: k, From: from, To: to, Name: name, Parts: parts, Calendar: c, At: len(all)})
						}
					}
				}
			}
		}
	}
	for i, a := range all {
		for k, b := range all {
			if Same([]Op{a}, []Op{b}) != (i == k) {
				t.Fatalf("Same of %#v, %#v: not %t", a, b, i == k)
			}
		}
	}
}
