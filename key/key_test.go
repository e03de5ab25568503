package key

import (
	"math"
	"math/big"
	"math/rand"
	"slices"
	"sort"
	"testing"

	"transposal/wide"
)

const (
	topAccount = math.MaxUint32
	topEntity  = math.MaxUint16
	topPeriod  = math.MaxUint16
)

// keys: all of each part's edges with all of each other's, rising.
func keys() []Key {
	var l []Key
	for _, account := range []uint32{0, 1, 2, 1<<16 - 1, 1 << 16, 1<<16 + 1, 999999, 1<<31 - 1, 1 << 31, topAccount - 1, topAccount} {
		for _, entity := range []uint16{0, 1, 2, 255, 256, 999, 1<<15 - 1, 1 << 15, topEntity - 1, topEntity} {
			for _, period := range []uint16{0, 1, 2, 255, 256, 1<<15 - 1, 1 << 15, topPeriod - 1, topPeriod} {
				l = append(l, Key{account, entity, period})
			}
		}
	}
	return l
}

// few: some of these, each part's least and greatest among them, rising.
func few() []Key {
	var l []Key
	for _, account := range []uint32{0, 1, topAccount} {
		for _, entity := range []uint16{0, 1, topEntity} {
			for _, period := range []uint16{0, 1, topPeriod} {
				l = append(l, Key{account, entity, period})
			}
		}
	}
	return l
}

// mixed: a list in another order, the same one for each seed.
func mixed[T any](l []T, seed int64) []T {
	l = slices.Clone(l)
	rand.New(rand.NewSource(seed)).Shuffle(len(l), func(i, j int) { l[i], l[j] = l[j], l[i] })
	return l
}

// ahead: does a stand ahead of b, told part by part?
func ahead(a, b Key) bool {
	if a.Account != b.Account {
		return a.Account < b.Account
	}
	if a.Entity != b.Entity {
		return a.Entity < b.Entity
	}
	return a.Period < b.Period
}

// packed are keys whose numbers are known from elsewhere than this package.
var packed = []struct {
	k Key
	n uint64
}{
	{Key{}, 0},
	{Key{1, 2, 3}, 4295098371},
	{Key{0, 0, 1}, 1},
	{Key{0, 1, 0}, 65536},
	{Key{1, 0, 0}, 4294967296},
	{Key{0, 0, topPeriod}, 65535},
	{Key{0, topEntity, 0}, 4294901760},
	{Key{topAccount, 0, 0}, 18446744069414584320},
	{Key{topAccount, topEntity, topPeriod}, math.MaxUint64},
	{Key{0, topEntity, topPeriod}, 4294967295},
	{Key{topAccount, 0, topPeriod}, 18446744069414649855},
	{Key{topAccount, topEntity, 0}, 18446744073709486080},
	{Key{0x89abcdef, 0x4567, 0xfedc}, 0x89abcdef4567fedc},
	{Key{1 << 31, 0, 0}, 1 << 63},
	{Key{0, 1 << 15, 0}, 1 << 31},
	{Key{0, 0, 1 << 15}, 1 << 15},
	{Key{999999, 999, 60}, 4294963066503228},
}

func TestP5_1PackKnown(t *testing.T) {
	for _, x := range packed {
		if got := x.k.Pack(); got != x.n {
			t.Errorf("%v.Pack(): %d, not %d", x.k, got, x.n)
		}
		if got := Unpack(x.n); got != x.k {
			t.Errorf("Unpack(%d): %v, not %v", x.n, got, x.k)
		}
	}
}

func TestP5_1PackAndBack(t *testing.T) {
	for _, k := range keys() {
		// By sums and products, in numbers that know no edge.
		want := new(big.Int).Mul(big.NewInt(int64(k.Account)), big.NewInt(65536))
		want.Add(want, big.NewInt(int64(k.Entity)))
		want.Mul(want, big.NewInt(65536))
		want.Add(want, big.NewInt(int64(k.Period)))
		if got := k.Pack(); got != want.Uint64() {
			t.Fatalf("%v.Pack(): %d, not %d", k, got, want)
		}
		if got := Unpack(k.Pack()); got != k {
			t.Fatalf("%v.Pack(), unpacked: %v", k, got)
		}
	}
}

// Each number is some key's.
func TestP5_1UnpackAndBack(t *testing.T) {
	r := rand.New(rand.NewSource(6))
	for i := range 64 {
		for _, n := range []uint64{1 << i, 1<<i - 1, 1<<i + 1, ^uint64(1 << i), r.Uint64(), r.Uint64() >> i} {
			if got := Unpack(n).Pack(); got != n {
				t.Errorf("Unpack(%d), packed: %d", n, got)
			}
		}
	}
}

func TestP5_1CompareKnown(t *testing.T) {
	for _, x := range []struct {
		a, b Key
		want int
	}{
		{Key{}, Key{}, 0},
		{Key{1, 2, 3}, Key{1, 2, 3}, 0},
		{Key{topAccount, topEntity, topPeriod}, Key{topAccount, topEntity, topPeriod}, 0},
		{Key{1, 2, 3}, Key{1, 2, 4}, -1},
		{Key{1, 2, 3}, Key{1, 3, 3}, -1},
		{Key{1, 2, 3}, Key{2, 2, 3}, -1},
		// An earlier part is more than all later ones.
		{Key{1, 9, 9}, Key{2, 0, 0}, -1},
		{Key{1, 1, 9}, Key{1, 2, 0}, -1},
		{Key{0, topEntity, topPeriod}, Key{1, 0, 0}, -1},
		{Key{1, 0, topPeriod}, Key{1, 1, 0}, -1},
		{Key{5, 0, 9}, Key{5, 9, 0}, -1},
		// Parts have no sign, and a difference of theirs may be beyond them.
		{Key{}, Key{topAccount, topEntity, topPeriod}, -1},
		{Key{1, 0, 0}, Key{1 << 31, 0, 0}, -1},
		{Key{0, 1, 0}, Key{0, 1 << 15, 0}, -1},
		{Key{0, 0, 1}, Key{0, 0, 1 << 15}, -1},
		{Key{0, 0, 0}, Key{topAccount, 0, 0}, -1},
		{Key{0, 0, 0}, Key{0, topEntity, 0}, -1},
		{Key{0, 0, 0}, Key{0, 0, topPeriod}, -1},
	} {
		if got := Compare(x.a, x.b); got != x.want {
			t.Errorf("Compare(%v, %v): %d, not %d", x.a, x.b, got, x.want)
		}
		if got := Compare(x.b, x.a); got != -x.want {
			t.Errorf("Compare(%v, %v): %d, not %d", x.b, x.a, got, -x.want)
		}
	}
}

func TestP5_1Compare(t *testing.T) {
	all := keys()
	for i, a := range all {
		for j, b := range all {
			want := 0
			if ahead(a, b) {
				want = -1
			} else if ahead(b, a) {
				want = 1
			}
			if got := Compare(a, b); got != want {
				t.Fatalf("Compare(%v, %v): %d, not %d", a, b, got, want)
			}
			if less := i < j; less != (want < 0) {
				t.Fatalf("the test's own keys don't rise at %d, %d", i, j)
			}
		}
	}
}

func TestP5_2Add(t *testing.T) {
	s := Sums{}
	a, b := Key{1, 2, 3}, Key{1, 3, 2}
	for _, n := range []int64{100, -30, 0, 5} {
		s.Add(a, n)
	}
	s.Add(b, -7)
	holdSums(t, s, Sums{a: {Lo: 75}, b: {Hi: -1, Lo: math.MaxUint64 - 6}})
	s.Add(a, -75)
	s.Add(b, 7)
	// What sums to 0 stays noted.
	holdSums(t, s, Sums{a: {}, b: {}})
}

func holdSums(t *testing.T, got, want Sums) {
	t.Helper()
	if len(got) != len(want) {
		t.Fatalf("sums of %d keys, not %d: %v", len(got), len(want), got)
	}
	for k, sum := range want {
		if at, there := got[k]; !there || at != sum {
			t.Fatalf("the sum of %v: %v, %t, not %v", k, at, there, sum)
		}
	}
}

func TestP5_2AddNotesNoughts(t *testing.T) {
	s := Sums{}
	want := Sums{}
	for i, k := range few() {
		s.Add(k, 0)
		want[k] = wide.Wide{}
		if i%2 == 0 {
			s.Add(k, 0)
		}
		holdSums(t, s, want)
	}
	if got := s.Keys(); !slices.Equal(got, few()) {
		t.Errorf("Keys(), all of 0: %v", got)
	}
}

// Sums beyond 64 bits, and round the edges of 128.
func TestP5_2AddGoesRound(t *testing.T) {
	k := Key{topAccount, topEntity, topPeriod}
	least, most := wide.Wide{Hi: math.MinInt64}, wide.Wide{Hi: math.MaxInt64, Lo: math.MaxUint64}
	for _, x := range []struct {
		from wide.Wide
		n    int64
		want wide.Wide
	}{
		{wide.Wide{Lo: math.MaxInt64}, 1, wide.Wide{Lo: 1 << 63}},
		{wide.Wide{Lo: math.MaxUint64}, 1, wide.Wide{Hi: 1}},
		{wide.Wide{Hi: 1}, -1, wide.Wide{Lo: math.MaxUint64}},
		{wide.Wide{}, math.MinInt64, wide.Wide{Hi: -1, Lo: 1 << 63}},
		{wide.Wide{Hi: -1, Lo: 1 << 63}, math.MinInt64, wide.Wide{Hi: -1}},
		{most, 1, least},
		{least, -1, most},
		{most, math.MaxInt64, wide.Wide{Hi: math.MinInt64, Lo: math.MaxInt64 - 1}},
		{least, math.MinInt64, wide.Wide{Hi: math.MaxInt64, Lo: 1 << 63}},
		{most, 0, most},
		{least, 0, least},
	} {
		s := Sums{k: x.from, {}: most}
		s.Add(k, x.n)
		holdSums(t, s, Sums{k: x.want, {}: most})
	}
}

// Many amounts, the greatest and the least among them, held against numbers that know no edge.
func TestP5_2AddMany(t *testing.T) {
	r := rand.New(rand.NewSource(7))
	s, want := Sums{}, map[Key]*big.Int{}
	all := few()
	for i := range 20000 {
		k := all[r.Intn(len(all))]
		n := []int64{int64(r.Uint64()), int64(r.Uint64() >> (i % 64)), math.MaxInt64, math.MinInt64, 0}[r.Intn(5)]
		s.Add(k, n)
		if want[k] == nil {
			want[k] = new(big.Int)
		}
		want[k].Add(want[k], big.NewInt(n))
	}
	if len(s) != len(want) {
		t.Fatalf("sums of %d keys, not %d", len(s), len(want))
	}
	for k, sum := range want {
		got := new(big.Int).Lsh(big.NewInt(s[k].Hi), 64)
		if got.Add(got, new(big.Int).SetUint64(s[k].Lo)); got.Cmp(sum) != 0 {
			t.Errorf("the sum of %v: %v, not %v", k, got, sum)
		}
	}
}

func TestP5_2Keys(t *testing.T) {
	want := keys()
	for seed := range int64(5) {
		s := Sums{}
		for i, k := range mixed(want, seed) {
			s.Add(k, int64(i)-5)
			// Keys noted more than once are told once.
			if i%3 == 0 {
				s.Add(k, 1)
			}
		}
		if got := s.Keys(); !slices.Equal(got, want) {
			t.Fatalf("Keys() of keys noted in another order: %d keys, not %d, or not rising", len(got), len(want))
		}
	}
	one := Key{3, 1, 4}
	if got := (Sums{one: {}}).Keys(); !slices.Equal(got, []Key{one}) {
		t.Errorf("Keys() of one: %v", got)
	}
}

func TestP5_2OfNone(t *testing.T) {
	var none Sums
	for _, n := range []int64{0, 1, -1, math.MaxInt64, math.MinInt64} {
		none.Add(Key{1, 2, 3}, n)
		none.Add(Key{}, n)
	}
	if none != nil || len(none.Keys()) != 0 {
		t.Errorf("nil sums: %v, with keys %v", none, none.Keys())
	}
	if got := (Sums{}).Keys(); len(got) != 0 {
		t.Errorf("Keys() of empty sums: %v", got)
	}
}

func TestP5_3Link(t *testing.T) {
	l := Links{}
	a, b := Key{1, 2, 3}, Key{1, 2, 4}
	for range 3 {
		l.Link(a, b)
	}
	l.Link(b, a)
	l.Link(a, a)
	l.Link(a, a)
	for _, x := range []struct {
		from, to Key
		want     int
	}{
		{a, b, 3},
		{b, a, 1},
		{a, a, 2},
		{b, b, 0},
		{Key{}, Key{}, 0},
		{a, Key{}, 0},
		{Key{}, b, 0},
	} {
		if got := l.Many(x.from, x.to); got != x.want {
			t.Errorf("Many(%v, %v): %d, not %d", x.from, x.to, got, x.want)
		}
	}
	// What was only asked for isn't noted.
	if got := l.Pairs(); !slices.Equal(got, [][2]Key{{a, a}, {a, b}, {b, a}}) {
		t.Errorf("Pairs(): %v", got)
	}
}

// Each of some keys with each, every part's least and greatest among them, a number of times of its own.
func TestP5_3LinkMany(t *testing.T) {
	var want [][2]Key
	for _, from := range few() {
		for _, to := range few() {
			want = append(want, [2]Key{from, to})
		}
	}
	times := func(i int) int { return 1 + i%7 }
	var calls []int
	for i := range want {
		calls = append(calls, slices.Repeat([]int{i}, times(i))...)
	}
	for seed := range int64(5) {
		l := Links{}
		for _, i := range mixed(calls, seed) {
			l.Link(want[i][0], want[i][1])
		}
		for i, pair := range want {
			if got := l.Many(pair[0], pair[1]); got != times(i) {
				t.Fatalf("Many(%v, %v): %d, not %d", pair[0], pair[1], got, times(i))
			}
		}
		if got := l.Pairs(); !slices.Equal(got, want) {
			t.Fatalf("Pairs() of keys linked in another order: %d pairs, not %d, or in another order", len(got), len(want))
		}
	}
}

func TestP5_3PairsByTheFirstThenTheSecond(t *testing.T) {
	for _, want := range [][][2]Key{
		{{{1, 1, 1}, {9, 9, 9}}, {{2, 0, 0}, {0, 0, 0}}},
		{{{1, 1, 1}, {9, 9, 9}}, {{1, 1, 2}, {0, 0, 0}}},
		{{{0, topEntity, topPeriod}, {topAccount, topEntity, topPeriod}}, {{1, 0, 0}, {0, 0, 0}}},
		{{{5, 5, 5}, {0, 0, 1}}, {{5, 5, 5}, {0, 1, 0}}, {{5, 5, 5}, {1, 0, 0}}},
		{{{5, 5, 5}, {0, 0, topPeriod}}, {{5, 5, 5}, {0, topEntity, 0}}, {{5, 5, 5}, {topAccount, 0, 0}}},
	} {
		l := Links{}
		for _, pair := range mixed(want, 8) {
			l.Link(pair[0], pair[1])
		}
		if got := l.Pairs(); !slices.Equal(got, want) {
			t.Errorf("Pairs(): %v, not %v", got, want)
		}
	}
}

// Pairs of keys of all kinds, held against another way to order them.
func TestP5_3PairsOfMany(t *testing.T) {
	r := rand.New(rand.NewSource(9))
	some := func() Key {
		return Key{uint32(r.Uint64() >> (32 + r.Intn(32))), uint16(r.Intn(3)), uint16(r.Uint64() >> (48 + r.Intn(16)))}
	}
	l, times := Links{}, map[[2]Key]int{}
	var want [][2]Key
	for range 3000 {
		pair := [2]Key{some(), some()}
		l.Link(pair[0], pair[1])
		if times[pair] == 0 {
			want = append(want, pair)
		}
		times[pair]++
	}
	sort.Slice(want, func(i, j int) bool {
		if want[i][0] != want[j][0] {
			return ahead(want[i][0], want[j][0])
		}
		return ahead(want[i][1], want[j][1])
	})
	if got := l.Pairs(); !slices.Equal(got, want) {
		t.Fatalf("Pairs(): %d pairs, not %d, or in another order", len(got), len(want))
	}
	for pair, n := range times {
		if got := l.Many(pair[0], pair[1]); got != n {
			t.Fatalf("Many(%v, %v): %d, not %d", pair[0], pair[1], got, n)
		}
	}
}

func TestP5_3OfNone(t *testing.T) {
	var none Links
	none.Link(Key{1, 2, 3}, Key{3, 2, 1})
	none.Link(Key{}, Key{})
	if none != nil || len(none.Pairs()) != 0 {
		t.Errorf("nil links: %v, with pairs %v", none, none.Pairs())
	}
	if n := none.Many(Key{1, 2, 3}, Key{3, 2, 1}) + none.Many(Key{}, Key{}); n != 0 {
		t.Errorf("Many of nil links: %d", n)
	}
	if got := (Links{}).Pairs(); len(got) != 0 {
		t.Errorf("Pairs() of empty links: %v", got)
	}
	if n := (Links{}).Many(Key{}, Key{}); n != 0 {
		t.Errorf("Many of empty links: %d", n)
	}
}

// R5: what comes out is new memory, and what is asked stays. R6: it is the same each time.
func TestP2KeysAndPairsAreNew(t *testing.T) {
	s, l := Sums{}, Links{}
	for i, k := range mixed(few(), 10) {
		s.Add(k, int64(i))
		l.Link(k, Key{})
		l.Link(Key{}, k)
	}
	sums, links := len(s), len(l)
	wantKeys, wantPairs := slices.Clone(s.Keys()), slices.Clone(l.Pairs())
	for range 10 {
		gotKeys, gotPairs := s.Keys(), l.Pairs()
		if !slices.Equal(gotKeys, wantKeys) || !slices.Equal(gotPairs, wantPairs) {
			t.Fatal("Keys() or Pairs(), called again, answers another list")
		}
		clear(gotKeys[:cap(gotKeys)])
		clear(gotPairs[:cap(gotPairs)])
	}
	if len(s) != sums || len(l) != links {
		t.Errorf("%d keys and %d pairs are there, not %d and %d", len(s), len(l), sums, links)
	}
}
