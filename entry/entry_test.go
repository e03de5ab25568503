package entry

import (
	"fmt"
	"maps"
	"math"
	"math/big"
	"math/rand"
	"slices"
	"testing"

	"transposal/api"
	"transposal/day"
	"transposal/wide"
)

// The first and the last day that there are: January 1 of year 1, December 31 of year 9999.
const (
	first day.Day = -719162
	last  day.Day = 2932896
)

// wrong are numbers that are no days.
var wrong = []day.Day{math.MinInt32, math.MinInt32 + 1, first - 2, first - 1, last + 1, last + 2, math.MaxInt32 - 1, math.MaxInt32}

// right are days, the first and the last one among them.
var right = []day.Day{first, first + 1, -256, -1, 0, 1, 255, 256, 65536, last - 1, last}

// refused are amounts that a line of one that may be hasn't.
var refused = []int64{0, math.MinInt64}

// taken are amounts that a line of one that may be can have; each has its other sign there, too.
var taken = []int64{1, -1, 2, -2, 255, -255, 256, -256, 1 << 32, -1 << 32, 1<<53 + 1, -1<<53 - 1, 1 << 62, -1 << 62, math.MaxInt64 - 1, math.MinInt64 + 2, math.MaxInt64, math.MinInt64 + 1}

// entities are at edges; a line asks nothing of whether its entity may be.
var entities = []uint16{0, 1, 2, 255, 256, 257, api.MaxEntity, api.MaxEntity + 1, math.MaxInt16, math.MaxInt16 + 1, math.MaxUint16 - 1, math.MaxUint16}

// on: a journal of these lines, on a day that is one.
func on(lines ...Line) Journal {
	return Journal{Day: 7, Lines: lines}
}

// of: a journal of one entity's amounts.
func of(entity uint16, amounts ...int64) Journal {
	j := on()
	for i, n := range amounts {
		j.Lines = append(j.Lines, Line{Account: uint32(i), Entity: entity, Amount: n})
	}
	return j
}

// joined: one journal of the lines of all.
func joined(all ...Journal) Journal {
	j := on()
	for _, one := range all {
		j.Lines = append(j.Lines, one.Lines...)
	}
	return j
}

// with: a journal, one of its lines another one.
func with(j Journal, at int, change func(*Line)) Journal {
	changed := Journal{Day: j.Day, Lines: slices.Clone(j.Lines)}
	change(&changed.Lines[at])
	return changed
}

// at: a journal on another day.
func at(d day.Day, j Journal) Journal {
	return Journal{Day: d, Lines: j.Lines}
}

// even: a journal of n lines, two or more, of one entity, that sums to 0.
func even(n int, entity uint16) Journal {
	amounts := make([]int64, n)
	for i := range amounts {
		amounts[i] = int64(i + 1)
	}
	amounts[n-1] = -int64(n-1) * int64(n) / 2
	return of(entity, amounts...)
}

// guard: a journal with marks in its spare room; what is called tells whether it, and they, are as they were.
func guard(j Journal) (Journal, func() bool) {
	room := make([]Line, len(j.Lines)+3)
	for i := copy(room, j.Lines); i < len(room); i++ {
		room[i] = Line{Account: 70, Entity: uint16(i), Counter: 7, Amount: 77}
	}
	were := slices.Clone(room)
	guarded := Journal{Day: j.Day, Lines: room[:len(j.Lines)]}
	return guarded, func() bool {
		return slices.Equal(room, were) && len(guarded.Lines) == len(j.Lines) && guarded.Day == j.Day
	}
}

// bigOf: a wide number.
func bigOf(w wide.Wide) *big.Int {
	n := new(big.Int).Lsh(big.NewInt(w.Hi), 64)
	return n.Add(n, new(big.Int).SetUint64(w.Lo))
}

// bigSums: of each entity what its lines sum to, gone through entity by entity.
func bigSums(j Journal) map[uint16]*big.Int {
	sums := map[uint16]*big.Int{}
	for _, l := range j.Lines {
		if sums[l.Entity] != nil {
			continue
		}
		sums[l.Entity] = new(big.Int)
		for _, other := range j.Lines {
			if other.Entity == l.Entity {
				sums[l.Entity].Add(sums[l.Entity], big.NewInt(other.Amount))
			}
		}
	}
	return sums
}

// told: what Check must tell: of all errors that a journal has the one that the chapter names first.
func told(j Journal) api.Errno {
	has := map[api.Errno]bool{
		api.ErrDay:  j.Day < first || j.Day > last,
		api.ErrSize: len(j.Lines) == 0 || len(j.Lines) > 60,
	}
	for _, l := range j.Lines {
		if slices.Contains(refused, l.Amount) {
			has[api.ErrRange] = true
		}
	}
	for _, sum := range bigSums(j) {
		if sum.Sign() != 0 {
			has[api.ErrSum] = true
		}
	}
	for _, e := range []api.Errno{api.ErrDay, api.ErrSize, api.ErrRange, api.ErrSum} {
		if has[e] {
			return e
		}
	}
	return api.OK
}

// each: all journals of so many of these lines, in any order, alike ones, too.
func each(lines []Line, size int) []Journal {
	all := []Journal{on()}
	for range size {
		var longer []Journal
		for _, j := range all {
			for _, l := range lines {
				longer = append(longer, on(append(slices.Clone(j.Lines), l)...))
			}
		}
		all = longer
	}
	return all
}

// crossed: lines of each of these entities with each of these amounts; accounts and counters are mixed.
func crossed(entities []uint16, amounts []int64) []Line {
	var lines []Line
	for i, e := range entities {
		for k, n := range amounts {
			lines = append(lines, Line{Account: uint32(k % 2), Entity: e, Counter: entities[(i+k)%len(entities)], Amount: n})
		}
	}
	return lines
}

// chance: a journal of up to so many lines, of few entities, with amounts at edges and of all lengths.
func chance(r *rand.Rand, most int) Journal {
	j := Journal{Day: right[r.Intn(len(right))]}
	for range r.Intn(most + 1) {
		l := Line{Account: r.Uint32() >> r.Intn(32), Entity: entities[r.Intn(4)], Counter: entities[r.Intn(4)]}
		l.Amount = taken[r.Intn(len(taken))]
		if r.Intn(2) == 0 {
			l.Amount = int64(r.Uint64()) >> r.Intn(64)
		}
		j.Lines = append(j.Lines, l)
	}
	return j
}

// holdSums holds Sums against what they must be; the journal stays as it was.
func holdSums(t *testing.T, j Journal, want map[uint16]*big.Int) {
	t.Helper()
	guarded, same := guard(j)
	got := guarded.Sums()
	if len(got) != len(want) {
		t.Errorf("Sums of %.300v: of %d entities, not of %d", fmt.Sprint(j), len(got), len(want))
	}
	for e, sum := range want {
		if w, ok := got[e]; !ok || bigOf(w).Cmp(sum) != 0 {
			t.Errorf("Sums of %.300v: of %d %v, %t, not %v", fmt.Sprint(j), e, w, ok, sum)
		}
	}
	if !same() {
		t.Errorf("Sums of %.300v changed it", fmt.Sprint(j))
	}
}

// holdCheck holds Check against what it must be; the journal stays as it was.
func holdCheck(t *testing.T, j Journal, want api.Errno) {
	t.Helper()
	guarded, same := guard(j)
	if got := guarded.Check(); got != want {
		t.Errorf("Check of %.300v: %d, not %d", fmt.Sprint(j), got, want)
	}
	if !same() {
		t.Errorf("Check of %.300v changed it", fmt.Sprint(j))
	}
}

func TestP9_1SumsKnown(t *testing.T) {
	for _, x := range []struct {
		j    Journal
		want map[uint16]wide.Wide
	}{
		{of(3, 100, -100), map[uint16]wide.Wide{3: {}}},
		{of(3, 100, -101), map[uint16]wide.Wide{3: {Hi: -1, Lo: math.MaxUint64}}},
		{of(3, 5), map[uint16]wide.Wide{3: {Lo: 5}}},
		// An entity is there, whatever its lines sum to.
		{of(3, 0), map[uint16]wide.Wide{3: {}}},
		{joined(of(3, 0), of(4, 1, -1), of(5, 6)), map[uint16]wide.Wide{3: {}, 4: {}, 5: {Lo: 6}}},
		{joined(of(0, 1, 2), of(math.MaxUint16, 4, 8)), map[uint16]wide.Wide{0: {Lo: 3}, math.MaxUint16: {Lo: 12}}},
		{of(9, math.MinInt64), map[uint16]wide.Wide{9: {Hi: -1, Lo: 1 << 63}}},
		{of(9, math.MinInt64, math.MinInt64), map[uint16]wide.Wide{9: {Hi: -1}}},
		{of(9, math.MinInt64, math.MinInt64, -1), map[uint16]wide.Wide{9: {Hi: -2, Lo: math.MaxUint64}}},
		{of(9, math.MaxInt64, math.MaxInt64), map[uint16]wide.Wide{9: {Lo: math.MaxUint64 - 1}}},
		{of(9, math.MaxInt64, math.MaxInt64, 2), map[uint16]wide.Wide{9: {Hi: 1}}},
		{of(9, math.MaxInt64, math.MinInt64), map[uint16]wide.Wide{9: {Hi: -1, Lo: math.MaxUint64}}},
	} {
		if got := x.j.Sums(); !maps.Equal(got, x.want) {
			t.Errorf("Sums of %v: %v, not %v", x.j, got, x.want)
		}
	}
}

// Neither the account, nor the Counter, nor the day, nor the order says to whom an amount belongs.
func TestP9_1SumsByEntityAlone(t *testing.T) {
	lines := []Line{
		{Account: 1, Entity: 5, Counter: 6, Amount: 100},
		{Account: 1, Entity: 6, Counter: 5, Amount: 40},
		{Account: 2, Entity: 5, Counter: 0, Amount: 20},
		{Account: math.MaxUint32, Entity: 5, Counter: 5, Amount: 3},
		{Account: 0, Entity: 6, Counter: 6, Amount: -9},
		{Account: 1, Entity: 5, Counter: math.MaxUint16, Amount: 1000},
	}
	want := map[uint16]wide.Wide{5: wide.Of(1123), 6: wide.Of(31)}
	for range lines {
		for _, d := range slices.Concat(right, wrong) {
			if got := at(d, on(lines...)).Sums(); !maps.Equal(got, want) {
				t.Errorf("Sums of %v on %d: %v", lines, d, got)
			}
		}
		lines = append(lines[1:], lines[0])
		if slices.Reverse(lines); !maps.Equal(on(lines...).Sums(), want) {
			t.Errorf("Sums of %v: %v", lines, on(lines...).Sums())
		}
	}
}

func TestP9_1SumsEachList(t *testing.T) {
	lines := crossed([]uint16{0, 1, math.MaxUint16}, []int64{math.MinInt64, -1, 0, 1, math.MaxInt64})
	for size := range 4 {
		for _, j := range each(lines, size) {
			holdSums(t, j, bigSums(j))
		}
	}
}

func TestP9_1SumsByChance(t *testing.T) {
	r := rand.New(rand.NewSource(9))
	for range 3000 {
		j := chance(r, 70)
		holdSums(t, j, bigSums(j))
	}
}

// Each entity that there can be, in one journal: none is taken for another one, and none is left out.
func TestP9_1SumsOfEachEntity(t *testing.T) {
	j := on()
	want := map[uint16]wide.Wide{}
	for e := range math.MaxUint16 + 1 {
		j.Lines = append(j.Lines, Line{Entity: uint16(e), Counter: uint16(e + 1), Amount: int64(e) - 1000})
		want[uint16(e)] = wide.Of(int64(e) - 1000)
	}
	if !maps.Equal(j.Sums(), want) {
		t.Error("Sums of all entities")
	}
}

// Sums asks nothing of whether a journal may be: the number of lines has no limit, and sums go far beyond 64 bits.
func TestP9_1SumsOfMany(t *testing.T) {
	for _, n := range []int{1, 2, api.MaxLines - 1, api.MaxLines, api.MaxLines + 1, 255, 256, 257, 1000, 1<<16 + 1} {
		for _, amount := range []int64{math.MinInt64, math.MinInt64 + 1, -1, 0, 1, 1 << 62, math.MaxInt64} {
			j := on(slices.Repeat([]Line{{Entity: 8, Amount: amount}}, n)...)
			got := j.Sums()
			if len(got) != 1 || got[8] != wide.Mul(amount, int64(n)) {
				t.Errorf("Sums of %d times %d: %v", n, amount, got)
			}
		}
	}
}

// No lines have no sums, nil or empty.
func TestP9_1SumsOfNone(t *testing.T) {
	room := []Line{{Account: 1, Entity: 2, Amount: 3}}
	for _, lines := range [][]Line{nil, {}, room[:0]} {
		for _, d := range slices.Concat(right, wrong) {
			if got := (Journal{Day: d, Lines: lines}).Sums(); len(got) != 0 {
				t.Errorf("Sums of no lines, %t: %v", lines == nil, got)
			}
		}
	}
	if got := (Journal{}).Sums(); len(got) != 0 {
		t.Errorf("Sums of nothing: %v", got)
	}
}

// R5: each answer is new memory: what is done to one shows nowhere else.
func TestP9_1SumsAreNew(t *testing.T) {
	for _, j := range []Journal{{}, on(), of(0, 0), of(3, 100, -100), joined(of(3, 100, -1), of(4, 5), of(math.MaxUint16, 6, -6))} {
		want := bigSums(j)
		for range 3 {
			one, other := j.Sums(), j.Sums()
			if one != nil {
				one[3], one[9] = wide.Of(77), wide.Of(78)
				delete(one, 4)
			}
			if len(other) != len(want) {
				t.Errorf("Sums of %v are shared", j)
			}
			for e, sum := range want {
				if bigOf(other[e]).Cmp(sum) != 0 {
					t.Errorf("Sums of %v are shared", j)
				}
			}
			holdSums(t, j, want)
		}
	}
	// A journal that changes later doesn't change what was answered.
	j := of(3, 100, -1)
	sums := j.Sums()
	j.Lines[0].Amount, j.Lines[1].Entity = 1, 4
	if !maps.Equal(sums, map[uint16]wide.Wide{3: wide.Of(99)}) {
		t.Errorf("Sums changed with the journal: %v", sums)
	}
	holdSums(t, j, map[uint16]*big.Int{3: big.NewInt(1), 4: big.NewInt(-1)})
}

// The chapter's example: 100 and -100 of one entity may be.
func TestP9_1CheckMayBe(t *testing.T) {
	for _, e := range entities {
		for _, d := range right {
			holdCheck(t, at(d, of(e, 100, -100)), api.OK)
		}
		for n := 2; n <= api.MaxLines; n++ {
			holdCheck(t, even(n, e), api.OK)
		}
		for _, n := range taken {
			holdCheck(t, of(e, n, -n), api.OK)
			holdCheck(t, of(e, n, n, -n, -n), api.OK)
		}
		holdCheck(t, of(e, math.MaxInt64, 1, math.MinInt64+1, -1), api.OK)
		holdCheck(t, of(e, 1<<62, 1<<62, -1, math.MinInt64+1), api.OK)
		// Parts of a sum may be beyond 64 bits.
		holdCheck(t, of(e, slices.Concat(slices.Repeat([]int64{math.MaxInt64}, 30), slices.Repeat([]int64{-math.MaxInt64}, 30))...), api.OK)
		holdCheck(t, of(e, slices.Concat(slices.Repeat([]int64{-1 << 62}, 30), slices.Repeat([]int64{1 << 62}, 30))...), api.OK)
	}
}

// Accounts and counters are looked at in a book alone; the Counter may be the line's own entity.
func TestP9_1CheckAsksNothingElse(t *testing.T) {
	for _, account := range []uint32{0, 1, 2, api.MaxCode, api.MaxCode + 1, math.MaxInt32, math.MaxUint32} {
		for _, e := range entities {
			for _, counter := range entities {
				one := Line{Account: account, Entity: e, Counter: counter, Amount: 100}
				holdCheck(t, on(one, Line{Account: 5, Entity: e, Amount: -100}), api.OK)
				holdCheck(t, on(one, Line{Account: account, Entity: e, Counter: counter, Amount: -100}), api.OK)
				if e != counter {
					// A Counter's sum isn't the entity's.
					holdCheck(t, on(one, Line{Account: account, Entity: counter, Counter: e, Amount: -100}), api.ErrSum)
				}
			}
		}
	}
	// Alike lines are no fault.
	l := Line{Account: 1, Entity: 2, Counter: 3, Amount: 4}
	holdCheck(t, on(l, l, Line{Account: 1, Entity: 2, Counter: 3, Amount: -8}), api.OK)
	// Entities in turn, and the wrong way round.
	holdCheck(t, on(Line{Entity: 9, Amount: 1}, Line{Entity: 3, Amount: 2}, Line{Entity: 9, Amount: -1}, Line{Entity: 3, Amount: -2}), api.OK)
}

// ErrDay is ahead of all that is wrong with a journal.
func TestP9_1CheckDay(t *testing.T) {
	for _, d := range wrong {
		for _, j := range []Journal{
			on(), of(1, 100, -100), of(1, 100), of(1, 0), of(1, math.MinInt64), of(1, 0, 5), even(api.MaxLines, 3), even(api.MaxLines+1, 3),
			on(slices.Repeat([]Line{{}}, api.MaxLines+1)...),
		} {
			holdCheck(t, at(d, j), api.ErrDay)
		}
		holdCheck(t, Journal{Day: d, Lines: []Line{}}, api.ErrDay)
	}
	// Each number near the first and the last day: the edge is where the document has it.
	fine := of(1, 100, -100)
	for near := day.Day(-2000); near <= 2000; near++ {
		if want := map[bool]api.Errno{true: api.ErrDay, false: api.OK}[near < 0]; at(first+near, fine).Check() != want {
			t.Errorf("Check on %d: not %d", first+near, want)
		}
		if want := map[bool]api.Errno{true: api.ErrDay, false: api.OK}[near > 0]; at(last+near, fine).Check() != want {
			t.Errorf("Check on %d: not %d", last+near, want)
		}
		holdCheck(t, at(near, fine), api.OK)
	}
}

// ErrSize is ahead of what is wrong with lines.
func TestP9_1CheckSize(t *testing.T) {
	room := []Line{{Entity: 1, Amount: 5}, {Entity: 1, Amount: -5}}
	for _, d := range right {
		for _, lines := range [][]Line{nil, {}, room[:0]} {
			if got := (Journal{Day: d, Lines: lines}).Check(); got != api.ErrSize {
				t.Errorf("Check of no lines on %d: %d", d, got)
			}
		}
		for _, n := range []int{api.MaxLines + 1, api.MaxLines + 2, 64, 100, 127, 128, 255, 256, 257, 256 + api.MaxLines, 1 << 16, 1<<16 + 2} {
			for _, amount := range []int64{math.MinInt64, -1, 0, 1, math.MaxInt64} {
				j := Journal{Day: d, Lines: slices.Repeat([]Line{{Entity: 1, Amount: amount}}, n)}
				if got := j.Check(); got != api.ErrSize {
					t.Errorf("Check of %d lines of %d on %d: %d", n, amount, d, got)
				}
			}
		}
	}
	for n := api.MaxLines + 1; n <= 400; n++ {
		holdCheck(t, even(n, 1), api.ErrSize)
	}
	// One line: no amount that may be is 0.
	for _, n := range taken {
		holdCheck(t, of(1, n), api.ErrSum)
	}
}

// An amount of 0, or of -2^63, alone, ahead of others, between them, behind them; whether or not sums are 0.
func TestP9_1CheckRange(t *testing.T) {
	for _, bad := range refused {
		for n := 2; n <= api.MaxLines; n++ {
			for i := range n {
				for _, e := range []uint16{0, 1, math.MaxUint16} {
					// With the first of these sums are wrong, too.
					holdCheck(t, with(even(n, 1), i, func(l *Line) { l.Entity, l.Amount = e, bad }), api.ErrRange)
				}
			}
		}
		for _, d := range right {
			holdCheck(t, at(d, of(1, bad)), api.ErrRange)
			holdCheck(t, at(d, of(1, bad, bad)), api.ErrRange)
		}
		holdCheck(t, joined(of(1, 5, -5), of(2, bad)), api.ErrRange)
		holdCheck(t, joined(of(2, bad), of(1, 5, -5)), api.ErrRange)
		holdCheck(t, of(1, 5, bad, -5), api.ErrRange)
	}
	// Sums of 0 all the same.
	holdCheck(t, of(1, math.MinInt64, math.MaxInt64, 1), api.ErrRange)
	holdCheck(t, of(1, math.MaxInt64, 1, math.MinInt64), api.ErrRange)
	holdCheck(t, of(1, 1<<62, 1<<62, math.MinInt64), api.ErrRange)
	// ErrRange of any line is ahead of ErrSum of lines ahead of it.
	holdCheck(t, joined(of(1, 5, 6), of(2, 7), of(3, 0)), api.ErrRange)
	holdCheck(t, joined(of(1, 5, 6), of(2, 7), of(3, math.MinInt64)), api.ErrRange)
	// What stands beside these amounts may be.
	for _, n := range []int64{1, -1, 1 << 8, 1 << 16, 1 << 32, 1 << 62, -1 << 62, math.MaxInt64, -math.MaxInt64} {
		holdCheck(t, of(1, n, -n), api.OK)
	}
	// An account, an entity, a Counter of 0 is no amount of 0.
	holdCheck(t, on(Line{Amount: 1}, Line{Amount: -1}), api.OK)
}

func TestP9_1CheckSum(t *testing.T) {
	for _, e := range entities {
		for _, n := range taken {
			holdCheck(t, of(e, n), api.ErrSum)
			holdCheck(t, of(e, n, -n, 1, 1), api.ErrSum)
			holdCheck(t, of(e, n, 1), map[bool]api.Errno{true: api.OK, false: api.ErrSum}[n == -1])
		}
		for n := 2; n <= api.MaxLines; n++ {
			for _, off := range []int64{-1, 1, 256, 1 << 16, 1 << 32, -1 << 32, 1 << 61} {
				for i := range n {
					j := with(even(n, e), i, func(l *Line) { l.Amount += off })
					if !slices.Contains(refused, j.Lines[i].Amount) {
						holdCheck(t, j, api.ErrSum)
					}
				}
			}
		}
		// One off, far beyond what a number with a point keeps apart.
		holdCheck(t, of(e, 1<<53+1, -1<<53), api.ErrSum)
		holdCheck(t, of(e, 1<<62+1, -1<<62), api.ErrSum)
		holdCheck(t, of(e, math.MaxInt64, -math.MaxInt64+1), api.ErrSum)
	}
}

// Sums of 2^64, of its multiples, and of its halves: 64 bits that go round take them for 0.
func TestP9_1CheckSumBeyond64Bits(t *testing.T) {
	for _, e := range entities {
		for n := 1; n <= api.MaxLines; n++ {
			for _, amount := range []int64{1 << 56, 1 << 58, 1 << 59, 1 << 60, 1 << 61, 1 << 62, math.MaxInt64} {
				holdCheck(t, of(e, slices.Repeat([]int64{amount}, n)...), api.ErrSum)
				holdCheck(t, of(e, slices.Repeat([]int64{-amount}, n)...), api.ErrSum)
			}
		}
		for times := 1; 4*times <= api.MaxLines; times++ {
			whole := of(e, slices.Repeat([]int64{math.MaxInt64, 1, math.MaxInt64, 1}, times)...)
			if want := new(big.Int).Lsh(big.NewInt(int64(times)), 64); bigSums(whole)[e].Cmp(want) != 0 {
				t.Fatalf("sum of %d: %v", times, bigSums(whole))
			}
			holdCheck(t, whole, api.ErrSum)
			holdCheck(t, of(e, slices.Repeat([]int64{-math.MaxInt64, -1, -1, -math.MaxInt64}, times)...), api.ErrSum)
			holdSums(t, whole, bigSums(whole))
		}
		// Among entities whose sums are 0.
		round := of(e, 1<<62, 1<<62, 1<<62, 1<<62)
		holdCheck(t, joined(of(e+1, 5, -5), round, of(e+2, 6, -6)), api.ErrSum)
		// 2^64 of one, and -2^64 of another one.
		holdCheck(t, joined(round, of(e+1, -1<<62, -1<<62, -1<<62, -1<<62)), api.ErrSum)
	}
}

// Sums are 0 of each entity, not only of all together.
func TestP9_1CheckSumOfEach(t *testing.T) {
	for _, e := range entities {
		for _, other := range entities {
			if e == other {
				continue
			}
			holdCheck(t, joined(of(e, 100), of(other, -100)), api.ErrSum)
			holdCheck(t, joined(of(e, 100, -99), of(other, 5, -6)), api.ErrSum)
			holdCheck(t, joined(of(e, 100, -100), of(other, 5)), api.ErrSum)
			holdCheck(t, joined(of(e, 5), of(other, 100, -100)), api.ErrSum)
			holdCheck(t, joined(of(e, 100, -100), of(other, 5, -5)), api.OK)
			holdCheck(t, joined(of(e, math.MaxInt64), of(other, 1, -1), of(e, -math.MaxInt64)), api.OK)
		}
	}
	// Three together, two by two not.
	holdCheck(t, joined(of(1, 3), of(2, 4), of(3, -7)), api.ErrSum)
	holdCheck(t, joined(of(1, 3, -3), of(2, 4, -4), of(3, -7, 7)), api.OK)
}

// R6: which entity's sum isn't 0, and in which order a map is gone through, doesn't show.
func TestP9_1CheckSumOfOneAmongMany(t *testing.T) {
	for _, n := range []int{2, 3, 10, api.MaxLines / 2} {
		j := on()
		for i := range n {
			j = joined(j, of(uint16(i*2000), int64(i+5), -int64(i+5)))
		}
		for range 20 {
			holdCheck(t, j, api.OK)
		}
		for i := range j.Lines {
			for range 20 {
				holdCheck(t, with(j, i, func(l *Line) { l.Amount++ }), api.ErrSum)
				holdCheck(t, with(j, i, func(l *Line) { l.Entity++ }), api.ErrSum)
				holdCheck(t, with(j, i, func(l *Line) { l.Entity, l.Amount = 65535, 0 }), api.ErrRange)
			}
		}
	}
}

// Journals with more than one error: ErrDay, then ErrSize, then ErrRange of any line, then ErrSum.
func TestP9_1CheckOrderOfErrors(t *testing.T) {
	long := on(slices.Repeat([]Line{{Entity: 1, Amount: 1}}, api.MaxLines+1)...)
	void := with(long, api.MaxLines, func(l *Line) { l.Amount = 0 })
	for _, x := range []struct {
		j    Journal
		want api.Errno
	}{
		{Journal{Day: first - 1}, api.ErrDay},
		{at(first-1, long), api.ErrDay},
		{at(first-1, void), api.ErrDay},
		{at(last+1, of(1, 0)), api.ErrDay},
		{at(last+1, of(1, math.MinInt64)), api.ErrDay},
		{at(last+1, of(1, 5)), api.ErrDay},
		{Journal{Day: first}, api.ErrSize},
		{at(last, long), api.ErrSize},
		{at(last, void), api.ErrSize},
		{with(long, 0, func(l *Line) { l.Amount = math.MinInt64 }), api.ErrSize},
		{of(1, 0, 5), api.ErrRange},
		{of(1, 5, 0), api.ErrRange},
		{of(1, 5, 6, 7, math.MinInt64), api.ErrRange},
		{of(1, math.MinInt64, 5), api.ErrRange},
		{of(1, 5, 6), api.ErrSum},
	} {
		holdCheck(t, x.j, x.want)
	}
}

// All journals of some lines at edges, on days and on what is none, held against another way to look for their errors.
func TestP9_1CheckEachList(t *testing.T) {
	seen := map[api.Errno]int{}
	lines := crossed([]uint16{0, math.MaxUint16}, []int64{math.MinInt64, math.MinInt64 + 1, -1, 0, 1, math.MaxInt64})
	for size := range 5 {
		for _, j := range each(lines, size) {
			for _, d := range []day.Day{first - 1, last} {
				j.Day = d
				want := told(j)
				seen[want]++
				if got := j.Check(); got != want {
					t.Fatalf("Check of %v: %d, not %d", j, got, want)
				}
			}
		}
	}
	if len(seen) != 5 {
		t.Errorf("the journals have errors %v", seen)
	}
}

// Journals by chance, and each of them made even: then it may be, if its amounts may.
func TestP9_1CheckByChance(t *testing.T) {
	seen := map[api.Errno]int{}
	r := rand.New(rand.NewSource(99))
	for range 5000 {
		j := chance(r, 62)
		other := at(j.Day, joined(j))
		for _, l := range j.Lines {
			l.Account, l.Amount = l.Account+1, -l.Amount
			other.Lines = append(other.Lines, l)
		}
		for _, one := range []Journal{j, other} {
			r.Shuffle(len(one.Lines), func(a, b int) { one.Lines[a], one.Lines[b] = one.Lines[b], one.Lines[a] })
			want := told(one)
			seen[want]++
			holdCheck(t, one, want)
		}
	}
	if len(seen) != 4 {
		t.Errorf("the journals have errors %v", seen)
	}
}

// holdSame holds Same, both ways round, against what it must be; both stay as they were.
func holdSame(t *testing.T, a, b Journal, want bool) {
	t.Helper()
	one, unchanged := guard(a)
	other, same := guard(b)
	if Same(one, other) != want || Same(other, one) != want {
		t.Errorf("Same of %.300v, %.300v: not %t", fmt.Sprint(a), fmt.Sprint(b), want)
	}
	if !unchanged() || !same() {
		t.Errorf("Same of %.300v, %.300v changed them", fmt.Sprint(a), fmt.Sprint(b))
	}
}

// changes are other lines than the one that was, each by one thing.
func changes() []func(*Line) {
	var l []func(*Line)
	for bit := range 64 {
		l = append(l, func(l *Line) { l.Amount ^= 1 << bit })
		if bit < 32 {
			l = append(l, func(l *Line) { l.Account ^= 1 << bit })
		}
		if bit < 16 {
			l = append(l, func(l *Line) { l.Entity ^= 1 << bit }, func(l *Line) { l.Counter ^= 1 << bit })
		}
	}
	return append(l,
		func(l *Line) { l.Amount = -l.Amount },
		func(l *Line) { l.Entity, l.Counter = l.Counter, l.Entity })
}

// mixed: a journal of n lines, no two of them alike.
func mixed(n int) Journal {
	j := on()
	for i := range n {
		j.Lines = append(j.Lines, Line{Account: uint32(i * i), Entity: uint16(i % 3), Counter: uint16(i%3 + 1), Amount: int64(i) - 5*int64(i%2) + 1000})
	}
	return j
}

// One thing of one line that is another one, each bit of it.
func TestP9_1SameOfLines(t *testing.T) {
	for _, n := range []int{1, 2, 3, 7, api.MaxLines, api.MaxLines + 1} {
		j := mixed(n)
		holdSame(t, j, mixed(n), true)
		for i := range n {
			for _, change := range changes() {
				holdSame(t, j, with(j, i, change), false)
			}
		}
	}
}

func TestP9_1SameOfDays(t *testing.T) {
	all := slices.Concat(right, wrong)
	for _, n := range []int{0, 1, 2, api.MaxLines} {
		for i, d := range all {
			for k, other := range all {
				holdSame(t, at(d, mixed(n)), at(other, mixed(n)), i == k)
			}
			for bit := range 31 {
				holdSame(t, at(d, mixed(n)), at(d^1<<bit, mixed(n)), false)
			}
		}
	}
}

// The lines' order, and how many there are.
func TestP9_1SameOfOrderAndNumber(t *testing.T) {
	for n := 1; n <= api.MaxLines+1; n++ {
		j := mixed(n)
		for i := range n {
			for k := range i {
				swapped := on(slices.Clone(j.Lines)...)
				swapped.Lines[i], swapped.Lines[k] = swapped.Lines[k], swapped.Lines[i]
				holdSame(t, j, swapped, false)
			}
			holdSame(t, j, on(slices.Delete(slices.Clone(j.Lines), i, i+1)...), false)
			// A line once more: beside itself, and at the end.
			holdSame(t, j, on(slices.Insert(slices.Clone(j.Lines), i, j.Lines[i])...), false)
			holdSame(t, j, on(append(slices.Clone(j.Lines), j.Lines[i])...), false)
		}
		// No amount, and nothing else in it, is a line, too.
		holdSame(t, j, on(append(slices.Clone(j.Lines), Line{})...), false)
		holdSame(t, j, on(append([]Line{{}}, j.Lines...)...), false)
		holdSame(t, on(make([]Line, n)...), on(make([]Line, n)...), true)
		holdSame(t, on(make([]Line, n)...), on(make([]Line, n-1)...), false)
	}
	// The same sums, the same lines but for how often.
	a, b := Line{Entity: 1, Amount: 1}, Line{Entity: 1, Amount: -1}
	holdSame(t, on(a, b), on(a, b, a, b), false)
	holdSame(t, on(a, a, b), on(a, b, b), false)
	holdSame(t, on(a, a, b), on(a, a, b), true)
}

// Same asks nothing of whether journals may be: long ones are looked through to their ends.
func TestP9_1SameOfMany(t *testing.T) {
	for _, n := range []int{255, 256, 257, 1000, 1<<16 + 1} {
		j := mixed(n)
		holdSame(t, j, mixed(n), true)
		for _, i := range []int{0, 59, 60, 61, n - 2, n - 1} {
			holdSame(t, j, with(j, i, func(l *Line) { l.Amount++ }), false)
		}
		holdSame(t, j, mixed(n-1), false)
		// Alike lines, as many, and fewer by what 8 bits leave away.
		holdSame(t, on(make([]Line, n+1)...), on(make([]Line, n+1)...), true)
		holdSame(t, on(make([]Line, n+1)...), on(make([]Line, n+1-256)...), false)
	}
}

// Nil lines and empty ones are the same; none is the same as some.
func TestP9_1SameOfNone(t *testing.T) {
	room := []Line{{Account: 1, Entity: 2, Amount: 3}}
	none := [][]Line{nil, {}, room[:0]}
	for _, d := range slices.Concat(right, wrong) {
		for _, one := range none {
			for _, other := range none {
				if !Same(Journal{Day: d, Lines: one}, Journal{Day: d, Lines: other}) {
					t.Errorf("Same of no lines on %d, %t, %t: false", d, one == nil, other == nil)
				}
				if Same(Journal{Day: d, Lines: one}, Journal{Day: d ^ 1, Lines: other}) {
					t.Errorf("Same of no lines on %d and beside it: true", d)
				}
			}
			for _, some := range []Journal{on(room...), on(Line{}), on(Line{}, Line{})} {
				some.Day = d
				if Same(Journal{Day: d, Lines: one}, some) || Same(some, Journal{Day: d, Lines: one}) {
					t.Errorf("Same of no lines and of %v: true", some)
				}
			}
		}
	}
}

// All journals of a few lines, each against each.
func TestP9_1SameEach(t *testing.T) {
	lines := []Line{{}, {Amount: 1}, {Amount: -1}, {Account: 1}, {Entity: 1}, {Counter: 1}}
	var all []Journal
	for size := range 4 {
		for _, j := range each(lines, size) {
			all = append(all, j)
		}
	}
	for i, a := range all {
		for k, b := range all {
			if Same(a, at(7, on(slices.Clone(b.Lines)...))) != (i == k) {
				t.Fatalf("Same of %v, %v: not %t", a, b, i == k)
			}
		}
	}
}

// Lines that lie in one room, one beside the other, and the same ones twice.
func TestP9_1SameInOneRoom(t *testing.T) {
	room := slices.Repeat([]Line{{Account: 1, Amount: 1}, {Account: 2, Amount: -1}}, 4)
	j := on(room[:4]...)
	if !Same(j, j) || !Same(j, on(room[4:]...)) || !Same(j, on(room[2:6]...)) || Same(j, on(room[1:5]...)) || Same(j, on(room[:3]...)) {
		t.Error("Same of lines in one room")
	}
}

// P1: calls end, and none panics, of journals that may not be, too; and these stay as they were.
func TestP1CallsEnd(t *testing.T) {
	r := rand.New(rand.NewSource(1))
	all := []Journal{{}, {Lines: []Line{}}, {Day: math.MinInt32}, {Day: math.MaxInt32}, mixed(100000)}
	all = append(all, each(crossed([]uint16{0, math.MaxUint16}, []int64{math.MinInt64, 0, math.MaxInt64}), 3)...)
	for range 300 {
		all = append(all, at(day.Day(r.Uint32()), chance(r, 200)))
	}
	for _, j := range all {
		guarded, same := guard(j)
		guarded.Sums()
		guarded.Check()
		Same(guarded, Journal{})
		Same(Journal{}, guarded)
		if !Same(guarded, guarded) || !same() {
			t.Fatalf("%.300v changed", fmt.Sprint(j))
		}
	}
}

// R5, R6: nothing is kept: what is handed in may change later, and calls answer by what it is then.
func TestP2NothingIsKept(t *testing.T) {
	j, other := of(1, 100, -100), of(1, 100, -100)
	for range 3 {
		if j.Check() != api.OK || !Same(j, other) || !maps.Equal(j.Sums(), map[uint16]wide.Wide{1: {}}) {
			t.Fatal("of 100 and -100")
		}
		j.Lines[1].Amount = -99
		if j.Check() != api.ErrSum || Same(j, other) || !maps.Equal(j.Sums(), map[uint16]wide.Wide{1: wide.Of(1)}) {
			t.Fatal("of 100 and -99")
		}
		j.Lines[1].Amount = 0
		if j.Check() != api.ErrRange || Same(j, other) || !maps.Equal(j.Sums(), map[uint16]wide.Wide{1: wide.Of(100)}) {
			t.Fatal("of 100 and 0")
		}
		j.Lines[1] = Line{Account: 1, Entity: 2, Amount: -100}
		if j.Check() != api.ErrSum || Same(j, other) || !maps.Equal(j.Sums(), map[uint16]wide.Wide{1: wide.Of(100), 2: wide.Of(-100)}) {
			t.Fatal("of two entities")
		}
		j.Lines[1].Entity, j.Day = 1, last+1
		if j.Check() != api.ErrDay || Same(j, other) || !maps.Equal(j.Sums(), map[uint16]wide.Wide{1: {}}) {
			t.Fatal("of no day")
		}
		j.Day = 7
	}
}
