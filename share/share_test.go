package share

import (
	"math"
	"math/big"
	"math/rand"
	"slices"
	"testing"

	"transposal/api"
)

const (
	least = math.MinInt64
	most  = math.MaxInt64
)

// amounts: the edges of 64 bits, of 32 and 53, and others of all lengths, the same ones each time.
func amounts() []int64 {
	l := []int64{least, least + 1, most, most - 1}
	for _, n := range []int64{0, 1, 2, 3, 5, 7, 8, 9, 10, 100, 999999, 1000000, 1000001, 1<<32 + 1, 1<<53 + 1, 1<<62 + 1} {
		l = append(l, n, -n)
	}
	r := rand.New(rand.NewSource(4))
	for i := range 64 {
		l = append(l, int64(r.Uint64()>>i), -int64(r.Uint64()>>i))
	}
	slices.Sort(l)
	return slices.Compact(l)
}

// weightLists: lists of each length from one to MaxParts, of like, small and great weights.
func weightLists() [][]int64 {
	var out [][]int64
	r := rand.New(rand.NewSource(5))
	for n := 1; n <= api.MaxParts; n++ {
		out = append(out, slices.Repeat([]int64{1}, n), slices.Repeat([]int64{api.MaxWeight}, n))
		for _, greatest := range []int64{2, 3, 10, 1000, api.MaxWeight} {
			for range 8 {
				l := make([]int64, n)
				for i := range l {
					l[i] = 1 + r.Int63n(greatest)
				}
				out = append(out, l)
			}
		}
	}
	return out
}

// allot: what Allot must answer of weights that may be, in numbers that know no edge, what is left given away by looking for the greatest rest again and again.
func allot(amount int64, weights []int64) []int64 {
	size, all := new(big.Int).Abs(big.NewInt(amount)), new(big.Int)
	for _, weight := range weights {
		all.Add(all, big.NewInt(weight))
	}
	left := new(big.Int).Set(size)
	shares, rests := make([]*big.Int, len(weights)), make([]*big.Int, len(weights))
	for i, weight := range weights {
		product := new(big.Int).Mul(size, big.NewInt(weight))
		shares[i], rests[i] = new(big.Int).QuoRem(product, all, new(big.Int))
		left.Sub(left, shares[i])
	}
	for range left.Int64() {
		best := 0
		for i := range rests {
			if rests[i].Cmp(rests[best]) > 0 {
				best = i
			}
		}
		shares[best].Add(shares[best], big.NewInt(1))
		rests[best] = big.NewInt(-1)
	}
	out := make([]int64, len(weights))
	for i, share := range shares {
		out[i] = share.Mul(share, big.NewInt(int64(big.NewInt(amount).Sign()))).Int64()
	}
	return out
}

func hold(t *testing.T, amount int64, weights, want []int64) {
	t.Helper()
	if got, e := Allot(amount, weights); e != api.OK || !slices.Equal(got, want) {
		t.Fatalf("Allot(%d, %v): %v, %d, not %v", amount, weights, got, e, want)
	}
}

func TestP3_1Allot(t *testing.T) {
	for _, x := range []struct {
		amount        int64
		weights, want []int64
	}{
		{10, []int64{1, 1, 1}, []int64{4, 3, 3}},
		{100, []int64{2, 1}, []int64{67, 33}},
		{100, []int64{1, 2}, []int64{33, 67}},
		{3, []int64{1, 1}, []int64{2, 1}},
		// Nothing is left.
		{6, []int64{1, 2, 3}, []int64{1, 2, 3}},
		{0, []int64{5, 7}, []int64{0, 0}},
		{42, []int64{7}, []int64{42}},
		// The greatest rest isn't the first part's, nor that of the greatest weight.
		{10, []int64{3, 3, 5}, []int64{3, 3, 4}},
		{7, []int64{6, 1, 3}, []int64{4, 1, 2}},
		{5, []int64{9, 4, 9}, []int64{2, 1, 2}},
		// Of like rests the first one, though a part ahead of it has a lesser one.
		{20, []int64{3, 5, 3, 5, 3}, []int64{3, 6, 3, 5, 3}},
		// More than one is left, and each part gets it once.
		{11, []int64{1, 1, 1, 1}, []int64{3, 3, 3, 2}},
		{7, []int64{1, 1, 1, 1, 1, 1, 1, 1}, []int64{1, 1, 1, 1, 1, 1, 1, 0}},
		{2, []int64{api.MaxWeight, 1, api.MaxWeight}, []int64{1, 0, 1}},
		// Parts that get nothing.
		{1, []int64{1, 1, 1}, []int64{1, 0, 0}},
		{1, []int64{1, 2, 2}, []int64{0, 1, 0}},
		{1, []int64{1, 1, api.MaxWeight}, []int64{0, 0, 1}},
		// Products beyond 64 bits, and beyond what a float holds.
		{most, []int64{api.MaxWeight}, []int64{most}},
		{most, []int64{1, 1}, []int64{1 << 62, 1<<62 - 1}},
		{most, []int64{1, api.MaxWeight}, []int64{9223362813492, 9223362813491962315}},
		{most, []int64{999999, 1000000, 999998}, []int64{3074457345618258602, 3074460420078678681, 3074454271157838524}},
	} {
		hold(t, x.amount, x.weights, x.want)
		// The sign is taken off ahead, and put on behind.
		for i := range x.want {
			x.want[i] = -x.want[i]
		}
		hold(t, -x.amount, x.weights, x.want)
	}
}

// -2^63 has no other sign in 64 bits.
func TestP3_1AllotOfTheLeast(t *testing.T) {
	hold(t, least, []int64{1}, []int64{least})
	hold(t, least, []int64{api.MaxWeight}, []int64{least})
	hold(t, least, []int64{1, 1}, []int64{-1 << 62, -1 << 62})
	hold(t, least, []int64{1, 1, 1}, []int64{-3074457345618258603, -3074457345618258603, -3074457345618258602})
	hold(t, least, []int64{api.MaxWeight, 1}, []int64{-9223362813491962316, -9223362813492})
	hold(t, least, []int64{999999, 1000000, 999998}, []int64{-3074457345618258603, -3074460420078678681, -3074454271157838524})
}

func TestP3_1AllotOfMany(t *testing.T) {
	for _, weights := range weightLists() {
		for _, amount := range amounts() {
			hold(t, amount, weights, allot(amount, weights))
		}
	}
}

// All small amounts by all small weights: there like rests are many.
func TestP3_1AllotOfSmall(t *testing.T) {
	const greatest = 4
	for n := 1; n <= 4; n++ {
		weights := slices.Repeat([]int64{1}, n)
		for more := true; more; more = next(weights, greatest) {
			for amount := int64(-20); amount <= 20; amount++ {
				hold(t, amount, weights, allot(amount, weights))
			}
		}
	}
}

// next counts on, by digits from 1 to greatest; false: all were there.
func next(digits []int64, greatest int64) bool {
	for i := range digits {
		if digits[i] < greatest {
			digits[i]++
			return true
		}
		digits[i] = 1
	}
	return false
}

func TestP3_1AllotWrong(t *testing.T) {
	many := slices.Repeat([]int64{1}, api.MaxParts)
	for _, x := range []struct {
		weights []int64
		want    api.Errno
	}{
		{nil, api.ErrSize},
		{[]int64{}, api.ErrSize},
		{append(slices.Clone(many), 1), api.ErrSize},
		{slices.Repeat([]int64{1}, 1000), api.ErrSize},
		{[]int64{0}, api.ErrRange},
		{[]int64{-1}, api.ErrRange},
		{[]int64{least}, api.ErrRange},
		{[]int64{api.MaxWeight + 1}, api.ErrRange},
		{[]int64{most}, api.ErrRange},
		{[]int64{most, most}, api.ErrRange},
		// Their sum may be, or their lower 32 bits.
		{[]int64{3, -1}, api.ErrRange},
		{[]int64{-1, 3}, api.ErrRange},
		{[]int64{1<<32 + 1}, api.ErrRange},
		// One is wrong, wherever it stands.
		{[]int64{0, 1, 1}, api.ErrRange},
		{[]int64{1, 0, 1}, api.ErrRange},
		{[]int64{1, 1, 0}, api.ErrRange},
		{append(slices.Clone(many[1:]), api.MaxWeight+1), api.ErrRange},
		// Both are wrong: their number is looked at first.
		{append(slices.Clone(many), 0), api.ErrSize},
		{slices.Repeat([]int64{-5}, api.MaxParts+1), api.ErrSize},
	} {
		for _, amount := range []int64{0, 1, -1, 100, most, least} {
			if got, e := Allot(amount, x.weights); e != x.want || len(got) != 0 {
				t.Errorf("Allot(%d, %v): %v, %d, not %d", amount, x.weights, got, e, x.want)
			}
		}
	}
}

func TestP3_1AllotAtTheLimits(t *testing.T) {
	hold(t, 17, slices.Repeat([]int64{api.MaxWeight}, api.MaxParts), []int64{3, 2, 2, 2, 2, 2, 2, 2})
	hold(t, -17, slices.Repeat([]int64{1}, api.MaxParts), []int64{-3, -2, -2, -2, -2, -2, -2, -2})
}

func TestP3_2SharesSumToTheAmount(t *testing.T) {
	for _, weights := range weightLists() {
		for _, amount := range amounts() {
			shares, _ := Allot(amount, weights)
			sum := new(big.Int)
			for _, share := range shares {
				sum.Add(sum, big.NewInt(share))
				if share != 0 && share < 0 != (amount < 0) {
					t.Fatalf("Allot(%d, %v): %v: a share of another sign", amount, weights, shares)
				}
			}
			if sum.Cmp(big.NewInt(amount)) != 0 {
				t.Fatalf("Allot(%d, %v): %v, in all %v", amount, weights, shares, sum)
			}
		}
	}
}

// R5: what is handed in stays, spare room included; what comes out is new memory. R6: it is the same each time.
func TestP2AllotLeavesItsWeights(t *testing.T) {
	room := []int64{1, 2, 3, 4, 5}
	first, _ := Allot(100, room[:3])
	second, _ := Allot(100, room[:3])
	first[0], first[1], first[2] = 7, 8, 9
	if !slices.Equal(room, []int64{1, 2, 3, 4, 5}) {
		t.Errorf("Allot made %v of its weights", room)
	}
	if !slices.Equal(second, []int64{17, 33, 50}) {
		t.Errorf("Allot, called again: %v", second)
	}
}
