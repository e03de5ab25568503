package wide

import (
	"math"
	"math/big"
	"math/rand"
	"slices"
	"testing"
)

// Numbers at the edges of the halves, and of halves of these, and their neighbours.
func edges() []int64 {
	l := []int64{math.MinInt64, math.MinInt64 + 1, math.MaxInt64, math.MaxInt64 - 1, 0, 7, -7, 1000000, 999983}
	for _, bit := range []int{0, 1, 2, 31, 32, 33, 62} {
		n := int64(1) << bit
		l = append(l, n-1, n, n+1, -n-1, -n, -n+1)
	}
	slices.Sort(l)
	return slices.Compact(l)
}

// numbers: the edges, and others of all lengths, the same ones each time.
func numbers() []int64 {
	l := edges()
	r := rand.New(rand.NewSource(1))
	for i := range 64 {
		l = append(l, int64(r.Uint64()>>i))
	}
	return l
}

// wides: all pairs of edges as the two halves.
func wides() []Wide {
	var l []Wide
	for _, hi := range edges() {
		for _, lo := range edges() {
			l = append(l, Wide{Hi: hi, Lo: uint64(lo)})
		}
	}
	return l
}

func bigOf(a Wide) *big.Int {
	n := new(big.Int).Lsh(big.NewInt(a.Hi), 64)
	return n.Add(n, new(big.Int).SetUint64(a.Lo))
}

// wideOf: a number modulo 2^128.
func wideOf(n *big.Int) Wide {
	low := new(big.Int).SetUint64(math.MaxUint64)
	hi := new(big.Int).Rsh(n, 64)
	return Wide{Hi: int64(hi.And(hi, low).Uint64()), Lo: low.And(n, low).Uint64()}
}

func TestP1_1Of(t *testing.T) {
	for _, x := range []struct {
		n    int64
		want Wide
	}{
		{0, Wide{}},
		{1, Wide{Lo: 1}},
		{-1, Wide{Hi: -1, Lo: math.MaxUint64}},
		{math.MaxInt64, Wide{Lo: 1<<63 - 1}},
		{math.MinInt64, Wide{Hi: -1, Lo: 1 << 63}},
	} {
		if got := Of(x.n); got != x.want {
			t.Errorf("Of(%d): %v, not %v", x.n, got, x.want)
		}
	}
	for _, n := range numbers() {
		if got := bigOf(Of(n)); got.Cmp(big.NewInt(n)) != 0 {
			t.Errorf("Of(%d) is %v", n, got)
		}
	}
}

func TestP1_1AddCarries(t *testing.T) {
	least, most := Wide{Hi: math.MinInt64}, Wide{Hi: math.MaxInt64, Lo: math.MaxUint64}
	for _, x := range []struct{ a, b, want Wide }{
		{Of(2), Of(3), Of(5)},
		{Of(2), Of(-3), Of(-1)},
		{Wide{Lo: math.MaxUint64}, Of(1), Wide{Hi: 1}},
		{Wide{Lo: math.MaxUint64}, Wide{Lo: math.MaxUint64}, Wide{Hi: 1, Lo: math.MaxUint64 - 1}},
		{Of(-1), Of(1), Wide{}},
		{most, Of(1), least},
		{least, Of(-1), most},
		{least, least, Wide{}},
	} {
		if got := Add(x.a, x.b); got != x.want {
			t.Errorf("Add(%v, %v): %v, not %v", x.a, x.b, got, x.want)
		}
	}
}

func TestP1_1AddSubCmp(t *testing.T) {
	all := wides()
	for _, a := range all {
		x := bigOf(a)
		for _, b := range all {
			y := bigOf(b)
			if got, want := Add(a, b), wideOf(new(big.Int).Add(x, y)); got != want {
				t.Fatalf("Add(%v, %v): %v, not %v", a, b, got, want)
			}
			if got, want := Sub(a, b), wideOf(new(big.Int).Sub(x, y)); got != want {
				t.Fatalf("Sub(%v, %v): %v, not %v", a, b, got, want)
			}
			if got, want := Cmp(a, b), x.Cmp(y); got != want {
				t.Fatalf("Cmp(%v, %v): %d, not %d", a, b, got, want)
			}
		}
	}
}

func TestP1_1Neg(t *testing.T) {
	least := Wide{Hi: math.MinInt64}
	if got := Neg(least); got != least {
		t.Errorf("Neg of -2^127: %v, not itself", got)
	}
	for _, a := range wides() {
		if got, want := Neg(a), wideOf(new(big.Int).Neg(bigOf(a))); got != want {
			t.Errorf("Neg(%v): %v, not %v", a, got, want)
		}
	}
}

func TestP1_1CmpLooksAtBothHalves(t *testing.T) {
	for _, x := range []struct {
		a, b Wide
		want int
	}{
		{Of(-1), Of(0), -1},
		{Of(0), Of(-1), 1},
		{Wide{Lo: math.MaxUint64}, Wide{Hi: 1}, -1},
		{Wide{Lo: math.MaxUint64}, Wide{Lo: 1}, 1},
		{Wide{Hi: -1, Lo: 1}, Wide{Hi: -1, Lo: 2}, -1},
		{Wide{Hi: 5, Lo: 6}, Wide{Hi: 5, Lo: 6}, 0},
	} {
		if got := Cmp(x.a, x.b); got != x.want {
			t.Errorf("Cmp(%v, %v): %d, not %d", x.a, x.b, got, x.want)
		}
	}
}

func TestP1_1Fits(t *testing.T) {
	for _, n := range numbers() {
		if got, ok := Of(n).Fits(); !ok || got != n {
			t.Errorf("Of(%d).Fits(): %d, %t", n, got, ok)
		}
	}
	for _, a := range []Wide{
		{Lo: 1 << 63},
		{Hi: -1, Lo: 1<<63 - 1},
		{Hi: -1},
		{Hi: 1},
		{Hi: 1, Lo: 1 << 63},
		{Hi: -2, Lo: math.MaxUint64},
		{Hi: math.MaxInt64, Lo: 5},
		{Hi: math.MinInt64, Lo: 5},
	} {
		if got, ok := a.Fits(); ok || got != 0 {
			t.Errorf("%v.Fits(): %d, %t, not 0, false", a, got, ok)
		}
	}
	for _, a := range wides() {
		got, ok := a.Fits()
		if n := bigOf(a); ok != n.IsInt64() || ok && got != n.Int64() || !ok && got != 0 {
			t.Errorf("%v.Fits(): %d, %t", a, got, ok)
		}
	}
}

func TestP1_2Mul(t *testing.T) {
	for _, x := range []struct {
		a, b int64
		want Wide
	}{
		{-1, 5, Wide{Hi: -1, Lo: 1<<64 - 5}},
		{0, -5, Wide{}},
		{-5, 0, Wide{}},
		{1 << 62, 8, Wide{Hi: 2}},
		{math.MinInt64, math.MinInt64, Wide{Hi: 1 << 62}},
		{math.MinInt64, -1, Wide{Lo: 1 << 63}},
		{math.MinInt64, math.MaxInt64, Wide{Hi: -1 << 62, Lo: 1 << 63}},
		{math.MaxInt64, math.MaxInt64, Wide{Hi: 1<<62 - 1, Lo: 1}},
	} {
		if got := Mul(x.a, x.b); got != x.want {
			t.Errorf("Mul(%d, %d): %v, not %v", x.a, x.b, got, x.want)
		}
	}
	for _, a := range numbers() {
		for _, b := range numbers() {
			want := new(big.Int).Mul(big.NewInt(a), big.NewInt(b))
			if got := Mul(a, b); bigOf(got).Cmp(want) != 0 {
				t.Fatalf("Mul(%d, %d): %v, not %v", a, b, got, want)
			}
		}
	}
}

func TestP1_2Size(t *testing.T) {
	for _, n := range numbers() {
		want := new(big.Int).Abs(big.NewInt(n)).Uint64()
		if got := Size(n); got != want {
			t.Errorf("Size(%d): %d, not %d", n, got, want)
		}
	}
	if got := Size(math.MinInt64); got != 1<<63 {
		t.Errorf("Size(-2^63): %d", got)
	}
}

func TestP1_2QuoEdges(t *testing.T) {
	for _, x := range []struct {
		a         Wide
		d         int64
		quo, rest uint64
	}{
		{Of(17), 5, 3, 2},
		{Of(0), 5, 0, 0},
		{Of(4), 5, 0, 4},
		{Wide{Hi: 1, Lo: 5}, 7, 2635249153387078803, 0},
		{Wide{Lo: math.MaxUint64}, 1, math.MaxUint64, 0},
		{Wide{Hi: 6, Lo: math.MaxUint64}, 7, math.MaxUint64, 6},
		{Wide{Hi: math.MaxInt64 - 1, Lo: math.MaxUint64}, math.MaxInt64, math.MaxUint64, math.MaxInt64 - 1},
		// What comes out doesn't go into 64 bits.
		{Wide{Hi: 1}, 1, 0, 0},
		{Wide{Hi: 7}, 7, 0, 0},
		{Wide{Hi: 7, Lo: 3}, 7, 0, 0},
		{Wide{Hi: 8, Lo: 3}, 7, 0, 0},
		{Wide{Hi: math.MaxInt64, Lo: math.MaxUint64}, math.MaxInt64, 0, 0},
		// a is below 0.
		{Of(-17), 5, 0, 0},
		{Of(-17), -5, 0, 0},
		{Wide{Hi: math.MinInt64}, math.MaxInt64, 0, 0},
		{Wide{Hi: -2, Lo: 3}, -1, 0, 0},
		// d isn't above 0.
		{Of(17), 0, 0, 0},
		{Of(17), -5, 0, 0},
		{Of(0), 0, 0, 0},
		{Wide{Hi: 9, Lo: 3}, math.MinInt64, 0, 0},
	} {
		if quo, rest := Quo(x.a, x.d); quo != x.quo || rest != x.rest {
			t.Errorf("Quo(%v, %d): %d, %d, not %d, %d", x.a, x.d, quo, rest, x.quo, x.rest)
		}
	}
}

func TestP1_2Quo(t *testing.T) {
	for _, a := range wides() {
		for _, d := range numbers() {
			quo, rest := Quo(a, d)
			wantQuo, wantRest := bigQuo(a, d)
			if quo != wantQuo || rest != wantRest {
				t.Fatalf("Quo(%v, %d): %d, %d, not %d, %d", a, d, quo, rest, wantQuo, wantRest)
			}
		}
	}
}

func bigQuo(a Wide, d int64) (quo, rest uint64) {
	if a.Hi < 0 || d <= 0 {
		return 0, 0
	}
	q, r := new(big.Int).QuoRem(bigOf(a), big.NewInt(d), new(big.Int))
	if !q.IsUint64() {
		return 0, 0
	}
	return q.Uint64(), r.Uint64()
}
