package nat

import (
	"math"
	"math/bits"

	"clepsydra/api"
)

// Div is the quotient and what is left.
func Div(a, b api.Nat) (api.Nat, api.Nat, api.Errno) {
	a, b = cut(a), cut(b)
	if len(b) == 0 {
		return nil, nil, api.ErrZero
	}
	if len(a) < len(b) {
		return nil, Trim(a), api.OK
	}
	// With the divisor's highest digit set a guess is at most two too great.
	places := bits.LeadingZeros64(b[len(b)-1])
	v := Shift(b, places)
	u := make(api.Nat, len(a)+1)
	copy(u, Shift(a, places))
	q := make(api.Nat, len(a)-len(b)+1)
	for i := range len(q) {
		at := len(q) - 1 - i
		q[at] = step(u[at:at+len(v)+1], v)
	}
	return cut(q), Shift(u[:len(v)], -places), api.OK
}

// step takes v from u as often as it goes and tells how often. u has a limb more than v, and is below v with a limb 0 put below it.
func step(u, v api.Nat) uint64 {
	digit := guess(u, v)
	borrow := takeTimes(u, v, digit)
again:
	if borrow > 0 {
		// The guess was too great: v goes back once, and what that carries out at the top pays what was borrowed there.
		digit--
		borrow -= addTo(u, v)
		goto again
	}
	return digit
}

// guess is step's digit as far as the highest limbs tell it: never too small.
func guess(u, v api.Nat) uint64 {
	n := len(v)
	if u[n] >= v[n-1] {
		return math.MaxUint64
	}
	digit, _ := bits.Div64(u[n], u[n-1], v[n-1])
	return digit
}

// takeTimes takes v times digit from u, which has a limb more than v, and tells what is borrowed above u's highest limb.
func takeTimes(u, v api.Nat, digit uint64) uint64 {
	over, borrow, carry := uint64(0), uint64(0), uint64(0)
	for i := range len(v) {
		hi, lo := bits.Mul64(v[i], digit)
		lo, carry = bits.Add64(lo, over, 0)
		over = hi + carry
		u[i], borrow = bits.Sub64(u[i], lo, borrow)
	}
	n := len(v)
	u[n], borrow = bits.Sub64(u[n], over, borrow)
	return borrow
}
