package unit

import (
	"fmt"
	"math"
	"slices"
	"testing"

	"transposal/api"
)

// edges are numbers at edges, rising.
var edges = Units{0, 1, 2, 127, 128, 255, 256, api.MaxEntity - 1, api.MaxEntity, api.MaxEntity + 1, math.MaxUint16 - 1, math.MaxUint16}

// asked: the edges, and those one beside them.
func asked() []uint16 {
	var l []uint16
	for _, n := range edges {
		l = append(l, n-1, n, n+1)
	}
	return l
}

// rising: n entities that may be, of the numbers step, twice step, and so on.
func rising(n, step int) Units {
	u := Units{}
	for i := range n {
		u = append(u, uint16((i+1)*step))
	}
	return u
}

// each: all entities of some of these numbers, in their order.
func each(numbers Units) []Units {
	var all []Units
	for some := range 1 << len(numbers) {
		u := Units{}
		for i, n := range numbers {
			if some>>i&1 == 1 {
				u = append(u, n)
			}
		}
		all = append(all, u)
	}
	return all
}

// lists: all lists of so many of these numbers, in any order, alike ones, too.
func lists(numbers Units, size int) []Units {
	all := []Units{{}}
	for range size {
		var longer []Units
		for _, u := range all {
			for _, n := range numbers {
				longer = append(longer, append(slices.Clone(u), n))
			}
		}
		all = longer
	}
	return all
}

// guard: entities with marks in their spare room; what is called tells whether it, and they, are as they were.
func guard(u Units) (Units, func() bool) {
	room := make(Units, len(u)+3)
	for at := copy(room, u); at < len(room); at++ {
		room[at] = uint16(700 + at)
	}
	were := slices.Clone(room)
	return room[:len(u)], func() bool { return slices.Equal(room, were) }
}

func TestP7_1Code(t *testing.T) {
	for n := range math.MaxUint16 + 1 {
		if got, want := Code(uint16(n)), n >= 1 && n <= 999; got != want {
			t.Errorf("Code(%d): %t", n, got)
		}
	}
}

// holdHas holds Has of a number against what it must be; the entities stay as they were.
func holdHas(t *testing.T, u Units, n uint16, want bool) {
	t.Helper()
	guarded, same := guard(u)
	if got := guarded.Has(n); got != want {
		t.Errorf("%v Has(%d): %t", u, n, got)
	}
	if !same() {
		t.Errorf("%v Has(%d) changed them", u, n)
	}
}

func TestP7_1HasKnown(t *testing.T) {
	u := Units{2, 5, 300, api.MaxEntity}
	for n := range math.MaxUint16 + 1 {
		holdHas(t, u, uint16(n), n == 2 || n == 5 || n == 300 || n == 999)
	}
}

func TestP7_1HasEdges(t *testing.T) {
	for _, u := range each(edges) {
		there := map[uint16]bool{}
		for _, n := range u {
			there[n] = true
		}
		for _, n := range asked() {
			if got := u.Has(n); got != there[n] {
				t.Fatalf("%v Has(%d): %t", u, n, got)
			}
		}
	}
}

func TestP7_1HasInMany(t *testing.T) {
	for _, size := range []int{1, 2, 3, api.MaxUnits - 1, api.MaxUnits, api.MaxUnits + 1, 300} {
		u := rising(size, 3)
		for n := range 3*size + 5 {
			holdHas(t, u, uint16(n), n > 0 && n%3 == 0 && n <= 3*size)
		}
	}
}

// Has asks nothing of how entities stand: the chapter asks for rising ones of With and Without alone.
func TestP7_1HasOfThoseThatDontRise(t *testing.T) {
	numbers := Units{0, 3, 7, api.MaxEntity + 1}
	for size := range 5 {
		for _, u := range lists(numbers, size) {
			for _, n := range []uint16{0, 1, 3, 5, 7, 8, api.MaxEntity, api.MaxEntity + 1, math.MaxUint16} {
				times := 0
				for _, other := range u {
					if other == n {
						times++
					}
				}
				holdHas(t, u, n, times > 0)
			}
		}
	}
}

// What stands in spare room is not there.
func TestP7_1HasLooksIntoNoSpareRoom(t *testing.T) {
	room := Units{1, 2, 3, 4, 5}
	for n := range uint16(7) {
		if got, want := room[1:3].Has(n), n == 2 || n == 3; got != want {
			t.Errorf("Has(%d): %t", n, got)
		}
	}
}

// holdCheck holds Check of entities against what it must be; they stay as they were.
func holdCheck(t *testing.T, what string, u Units, want api.Errno) {
	t.Helper()
	guarded, same := guard(u)
	if got := guarded.Check(); got != want {
		t.Errorf("Check of %s: %d, not %d", what, got, want)
	}
	if !same() {
		t.Errorf("Check of %s changed them", what)
	}
}

func TestP7_1CheckMayBe(t *testing.T) {
	for size := range api.MaxUnits + 1 {
		holdCheck(t, fmt.Sprint(size, " entities"), rising(size, 1), api.OK)
		holdCheck(t, fmt.Sprint(size, " entities, wide apart"), rising(size, 24), api.OK)
	}
	for n := uint16(1); n <= api.MaxEntity; n++ {
		holdCheck(t, fmt.Sprint(n, " alone"), Units{n}, api.OK)
	}
	holdCheck(t, "the least and the greatest", Units{1, api.MaxEntity}, api.OK)
	holdCheck(t, "the two greatest", Units{api.MaxEntity - 1, api.MaxEntity}, api.OK)
	last := Units{}
	for n := api.MaxEntity - api.MaxUnits + 1; n <= api.MaxEntity; n++ {
		last = append(last, uint16(n))
	}
	holdCheck(t, "as many as can be, the greatest", last, api.OK)
}

func TestP7_1CheckSize(t *testing.T) {
	for _, size := range []int{api.MaxUnits + 1, api.MaxUnits + 2, 100, 255, 256, 257, 900, 1<<16 + 1, 1 << 17} {
		// Ahead of all that is wrong with them.
		for what, n := range map[string]uint16{"none's number": 0, "alike": 1, "too great": math.MaxUint16} {
			holdCheck(t, fmt.Sprint(size, " of ", what), slices.Repeat(Units{n}, size), api.ErrSize)
		}
	}
	for size := api.MaxUnits + 1; size <= api.MaxEntity; size++ {
		holdCheck(t, fmt.Sprint(size, " entities"), rising(size, 1), api.ErrSize)
	}
	holdCheck(t, "as many as can be, of none's number", make(Units, api.MaxUnits), api.ErrRange)
	holdCheck(t, "as many as can be, alike", slices.Repeat(Units{1}, api.MaxUnits), api.ErrOrder)
}

// Each number that is no entity's, alone, ahead of others, between them, behind them.
func TestP7_1CheckRange(t *testing.T) {
	for n := range math.MaxUint16 + 1 {
		if 1 <= n && n <= 999 {
			continue
		}
		wrong := uint16(n)
		for _, u := range []Units{{wrong}, {wrong, 5}, {5, wrong}, {5, wrong, 6}, {5, 6, wrong}, {wrong, 5, 6}, {api.MaxEntity, wrong}, {1, wrong}, {wrong, wrong}} {
			holdCheck(t, fmt.Sprint(u), u, api.ErrRange)
		}
	}
	for at := range api.MaxUnits {
		for _, wrong := range []uint16{0, api.MaxEntity + 1, math.MaxUint16} {
			u := rising(api.MaxUnits, 1)
			u[at] = wrong
			holdCheck(t, fmt.Sprint(wrong, " at ", at, " of as many as can be"), u, api.ErrRange)
		}
	}
}

func TestP7_1CheckOrder(t *testing.T) {
	for n := uint16(1); n <= api.MaxEntity; n++ {
		for _, u := range []Units{{n, n}, {n, 1}, {api.MaxEntity, n}} {
			holdCheck(t, fmt.Sprint(u), u, api.ErrOrder)
		}
	}
	for _, u := range []Units{
		{2, 1}, {1, 2, 2}, {1, 1, 2}, {2, 1, 3}, {1, 3, 2}, {3, 1, 2}, {2, 3, 1}, {3, 2, 1}, {1, 2, 1}, {2, 1, 2}, {1, 256, 2}, {257, 2}, {998, 999, 998},
	} {
		holdCheck(t, fmt.Sprint(u), u, api.ErrOrder)
	}
	for at := 1; at < api.MaxUnits; at++ {
		alike := rising(api.MaxUnits, 2)
		alike[at] = alike[at-1]
		holdCheck(t, fmt.Sprint("two alike at ", at), alike, api.ErrOrder)
		turned := rising(api.MaxUnits, 2)
		turned[at-1], turned[at] = turned[at], turned[at-1]
		holdCheck(t, fmt.Sprint("two the wrong way round at ", at), turned, api.ErrOrder)
	}
}

// Entities with two faults: one by one, and of one its range ahead of its order.
func TestP7_1CheckOrderOfErrors(t *testing.T) {
	for _, x := range []struct {
		u    Units
		want api.Errno
	}{
		// Of one entity.
		{Units{5, 0}, api.ErrRange},
		{Units{0, 0}, api.ErrRange},
		{Units{1000, 1000}, api.ErrRange},
		{Units{1001, 1000}, api.ErrRange},
		{Units{1000, 0}, api.ErrRange},
		// Of one, then of another one.
		{Units{5, 5, 0}, api.ErrOrder},
		{Units{5, 4, 1000}, api.ErrOrder},
		{Units{5, 0, 4}, api.ErrRange},
		{Units{5, 1000, 4}, api.ErrRange},
		{Units{0, 5, 5}, api.ErrRange},
		{Units{1000, 5, 5}, api.ErrRange},
		{Units{2, 1, 0, 1000}, api.ErrOrder},
		{Units{1, 2, 2, 0}, api.ErrOrder},
		{Units{1, 2, 0, 2, 2}, api.ErrRange},
	} {
		holdCheck(t, fmt.Sprint(x.u), x.u, x.want)
	}
}

// told: what Check must tell, by the longest beginning that has no fault: the number behind it is the first one that has.
func told(u Units) api.Errno {
	whole := 0
	for whole < len(u) {
		begin := slices.Clone(u[:whole+1])
		slices.Sort(begin)
		begin = slices.Compact(begin)
		if !slices.Equal(begin, u[:whole+1]) || begin[0] == 0 || begin[whole] > 999 {
			break
		}
		whole++
	}
	switch {
	case whole == len(u):
		return api.OK
	case u[whole] == 0 || u[whole] > 999:
		return api.ErrRange
	}
	return api.ErrOrder
}

// All lists of some numbers at edges, held against another way to look for their faults.
func TestP7_1CheckEachList(t *testing.T) {
	seen := map[api.Errno]int{}
	for size := range 6 {
		for _, u := range lists(Units{0, 1, 2, 256, 998, 999, 1000, math.MaxUint16}, size) {
			want := told(u)
			seen[want]++
			if got := u.Check(); got != want {
				t.Fatalf("Check of %v: %d, not %d", u, got, want)
			}
		}
	}
	if len(seen) != 3 {
		t.Errorf("the lists have errors %v", seen)
	}
}

// holdUnits holds entities that came of others against what they must be; those stay as they were.
func holdUnits(t *testing.T, what string, u Units, call func(Units) Units, want Units) {
	t.Helper()
	guarded, same := guard(u)
	got := call(guarded)
	if !slices.Equal(got, want) {
		t.Fatalf("%v %s: %v, not %v", u, what, got, want)
	}
	if !same() {
		t.Fatalf("%v %s changed them, or their spare room", u, what)
	}
}

func TestP7_1WithKnown(t *testing.T) {
	for _, x := range []struct {
		u    Units
		n    uint16
		want Units
	}{
		{Units{1, 3}, 2, Units{1, 2, 3}},
		{Units{}, 7, Units{7}},
		{Units{2, 4}, 1, Units{1, 2, 4}},
		{Units{2, 4}, 5, Units{2, 4, 5}},
		{Units{2, 4, 6}, 2, Units{2, 4, 6}},
		{Units{2, 4, 6}, 4, Units{2, 4, 6}},
		{Units{2, 4, 6}, 6, Units{2, 4, 6}},
		{Units{2, 300}, 256, Units{2, 256, 300}},
		// With asks nothing of whether the number may be.
		{Units{1, 999}, 0, Units{0, 1, 999}},
		{Units{1, 999}, math.MaxUint16, Units{1, 999, math.MaxUint16}},
	} {
		with := func(u Units) Units { return u.With(x.n) }
		holdUnits(t, fmt.Sprintf("With(%d)", x.n), x.u, with, x.want)
	}
}

func TestP7_1WithoutKnown(t *testing.T) {
	for _, x := range []struct {
		u    Units
		n    uint16
		want Units
	}{
		{Units{1, 2, 3}, 1, Units{2, 3}},
		{Units{1, 2, 3}, 2, Units{1, 3}},
		{Units{1, 2, 3}, 3, Units{1, 2}},
		{Units{7}, 7, Units{}},
		{Units{2, 4}, 1, Units{2, 4}},
		{Units{2, 4}, 3, Units{2, 4}},
		{Units{2, 4}, 5, Units{2, 4}},
		{Units{1, 257}, 1, Units{257}},
		{Units{0, 1}, 0, Units{1}},
		{Units{0, 1}, math.MaxUint16, Units{0, 1}},
		{Units{1, math.MaxUint16}, math.MaxUint16, Units{1}},
	} {
		without := func(u Units) Units { return u.Without(x.n) }
		holdUnits(t, fmt.Sprintf("Without(%d)", x.n), x.u, without, x.want)
	}
}

// kept: the entities of which a thing is so.
func kept(u Units, is func(uint16) bool) Units {
	var l Units
	for _, n := range u {
		if is(n) {
			l = append(l, n)
		}
	}
	return l
}

// All entities of numbers at edges, with, without each of them and those beside them.
func TestP7_1WithAndWithoutEdges(t *testing.T) {
	for _, u := range each(edges) {
		for _, n := range asked() {
			below := kept(u, func(other uint16) bool { return other < n })
			above := kept(u, func(other uint16) bool { return other > n })
			with := func(u Units) Units { return u.With(n) }
			without := func(u Units) Units { return u.Without(n) }
			holdUnits(t, fmt.Sprintf("With(%d)", n), u, with, slices.Concat(below, Units{n}, above))
			holdUnits(t, fmt.Sprintf("Without(%d)", n), u, without, slices.Concat(below, above))
		}
	}
}

// One by one, each way, past MaxUnits: With and Without ask nothing of how many there are.
func TestP7_1WithAndWithoutMany(t *testing.T) {
	const size = api.MaxUnits + 60
	want := rising(size, 2)
	up, down := Units{}, Units{}
	for i := range size {
		up, down = up.With(want[i]), down.With(want[size-1-i])
		if !slices.Equal(up, want[:i+1]) || !slices.Equal(down, want[size-1-i:]) {
			t.Fatalf("With, one by one, of %d: %v, %v", i+1, up, down)
		}
	}
	for at, n := range want {
		with := func(u Units) Units { return u.With(n - 1) }
		holdUnits(t, fmt.Sprintf("With(%d)", n-1), want, with, slices.Insert(slices.Clone(want), at, n-1))
		again := func(u Units) Units { return u.With(n) }
		holdUnits(t, fmt.Sprintf("With(%d)", n), want, again, want)
	}
	for i := range size {
		up, down = up.Without(want[i]), down.Without(want[size-1-i])
		if !slices.Equal(up, want[i+1:]) || !slices.Equal(down, want[:size-1-i]) {
			t.Fatalf("Without, one by one, of %d: %v, %v", i+1, up, down)
		}
	}
}

// Nil entities are none.
func TestP7_1OfNone(t *testing.T) {
	for _, none := range []Units{nil, {}} {
		if got := none.Check(); got != api.OK {
			t.Errorf("Check: %d", got)
		}
		for _, n := range asked() {
			if none.Has(n) {
				t.Errorf("Has(%d): true", n)
			}
			if got := none.With(n); !slices.Equal(got, Units{n}) {
				t.Errorf("With(%d): %v", n, got)
			}
			if got := none.Without(n); len(got) != 0 {
				t.Errorf("Without(%d): %v", n, got)
			}
		}
	}
	// None, in room that others use.
	room := Units{4, 5, 6}
	if got := room[:0].With(9).With(8); !slices.Equal(got, Units{8, 9}) || len(room[:0].Without(4)) != 0 || room[:0].Has(4) {
		t.Errorf("of none, with spare room: %v", got)
	}
	if !slices.Equal(room, Units{4, 5, 6}) {
		t.Errorf("the room changed: %v", room)
	}
}

// P1: calls end, and none panics, at entities that don't rise, or are too many, too; and these stay as they were.
func TestP1CallsEnd(t *testing.T) {
	many := slices.Repeat(Units{9, 9, 2, 0, math.MaxUint16, 500}, 5000)
	for _, u := range append(lists(Units{0, 4, math.MaxUint16}, 4), many) {
		guarded, same := guard(u)
		for _, n := range []uint16{0, 4, 5, 9, math.MaxUint16} {
			guarded.Has(n)
			guarded.With(n)
			guarded.Without(n)
		}
		guarded.Check()
		if !same() {
			t.Fatalf("%.40v changed", u)
		}
	}
}

// R5: what came of entities is not changed by what else comes of them.
func TestP2UnitsStandApart(t *testing.T) {
	base, same := guard(Units{1, 3, 5, 7})
	one, other := base.With(8), base.With(9)
	first, last := base.Without(1), base.Without(7)
	again, others := base.With(3), base.Without(4)
	for _, u := range []Units{one, other, first, last, again, others} {
		for _, n := range []uint16{0, 1, 3, 4, 7, 10} {
			_, _ = u.With(n), u.Without(n)
		}
	}
	for _, x := range []struct {
		what      string
		got, want Units
	}{
		{"With(8)", one, Units{1, 3, 5, 7, 8}},
		{"With(9)", other, Units{1, 3, 5, 7, 9}},
		{"Without(1)", first, Units{3, 5, 7}},
		{"Without(7)", last, Units{1, 3, 5}},
		{"With(3)", again, Units{1, 3, 5, 7}},
		{"Without(4)", others, Units{1, 3, 5, 7}},
	} {
		if !slices.Equal(x.got, x.want) {
			t.Errorf("%s, later: %v, not %v", x.what, x.got, x.want)
		}
	}
	if !same() {
		t.Error("the entities changed, or their spare room")
	}
}

// R5, R6: nothing is kept: what is handed in may change later, and calls answer by what it is then.
func TestP2NothingIsKept(t *testing.T) {
	u := Units{2, 4}
	for range 3 {
		if u.Check() != api.OK || !u.Has(4) || u.Has(6) || !slices.Equal(u.With(3), Units{2, 3, 4}) || !slices.Equal(u.Without(2), Units{4}) {
			t.Fatal("of 2 and 4")
		}
		u[0], u[1] = 6, 1
		if u.Check() != api.ErrOrder || u.Has(4) || !u.Has(6) {
			t.Fatal("of 6 and 1")
		}
		u[0], u[1] = 2, 4
	}
}
