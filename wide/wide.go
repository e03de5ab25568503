// Package wide is layer 1: whole numbers of 128 bits: see shared/doc/01-wide.md.
package wide

// Wide is a number of 128 bits: the high half, signed, and the low one.
type Wide struct {
	Hi int64
	Lo uint64
}

// Of: a number as a wide one.
func Of(n int64) Wide {
	// The shift carries the sign along, so Hi is 0, or -1 of what is below 0.
	return Wide{Hi: n >> 63, Lo: uint64(n)}
}

// Add: a sum; it goes round.
func Add(a, b Wide) Wide {
	sum := Wide{Hi: a.Hi + b.Hi, Lo: a.Lo + b.Lo}
	// A low half that went round is less than each of those it was made of.
	if sum.Lo < a.Lo {
		sum.Hi++
	}
	return sum
}

// Neg: the other sign; it goes round.
func Neg(a Wide) Wide {
	return Add(Wide{Hi: ^a.Hi, Lo: ^a.Lo}, Of(1))
}

// Sub: a difference; it goes round.
func Sub(a, b Wide) Wide {
	return Add(a, Neg(b))
}

// Cmp: -1, 0, 1, as a is less, the same, more.
func Cmp(a, b Wide) int {
	switch {
	case a == b:
		return 0
	case a.Hi < b.Hi || a.Hi == b.Hi && a.Lo < b.Lo:
		return -1
	}
	return 1
}

// Fits: as 64 bits with a sign, if they are enough.
func (a Wide) Fits() (int64, bool) {
	n := int64(a.Lo)
	if Of(n) != a {
		return 0, false
	}
	return n, true
}

// Size: a number without its sign.
func Size(n int64) uint64 {
	if n < 0 {
		// Turned as a number without a sign: -2^63 has no other sign among those with one.
		return -uint64(n)
	}
	return uint64(n)
}

// Mul: a product; it is always right.
func Mul(a, b int64) Wide {
	p := product(Size(a), Size(b))
	if (a < 0) != (b < 0) {
		return Neg(p)
	}
	return p
}

// product: of two numbers without a sign, up to 2^63 each, so that Hi has room for what comes out.
func product(a, b uint64) Wide {
	aHigh, aLow := halves(a)
	bHigh, bLow := halves(b)
	// No step goes round: (2^32-1)^2 and two carries of 2^32-1 are just 2^64-1.
	carry, first := halves(aLow * bLow)
	more, middle := halves(aHigh*bLow + carry)
	rest, second := halves(aLow*bHigh + middle)
	return Wide{Hi: int64(aHigh*bHigh + more + rest), Lo: second<<32 | first}
}

// halves: the upper and the lower 32 bits.
func halves(n uint64) (high, low uint64) {
	return n >> 32, uint64(uint32(n))
}

// Quo: of a number that isn't below 0 by one above 0: what comes out, and what is left; noughts of others, and of what doesn't go into 64 bits.
func Quo(a Wide, d int64) (quo, rest uint64) {
	// What comes out goes into 64 bits just where Hi is less than d; a d that isn't above 0 isn't above such a Hi either.
	if a.Hi < 0 || a.Hi >= d {
		return 0, 0
	}
	by := uint64(d)
	rest = uint64(a.Hi)
	// Bit by bit from the top: the rest stays below d, which is below 2^63, so there is room to double it.
	for bit := 63; bit >= 0; bit-- {
		rest = rest<<1 | a.Lo>>bit&1
		if rest >= by {
			rest -= by
			quo |= 1 << bit
		}
	}
	return quo, rest
}
