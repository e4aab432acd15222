package modn

import (
	"math/bits"

	"clepsydra/api"
	"clepsydra/nat"
)

// limbBits is how many binary digits a limb has.
const limbBits = 64

// Pow is a to the e modulo n.
func Pow(a, e, n api.Nat) (api.Nat, api.Errno) {
	a, errno := Mod(a, n)
	if errno != api.OK {
		return nil, errno
	}
	if nat.Bit(n, 0) == 0 {
		return power(nat.Of(1), a, e, func(x, y api.Nat) api.Nat {
			product, _ := Mod(nat.Mul(x, y), n)
			return product
		}), api.OK
	}
	o := oddOf(n)
	return o.leave(power(o.enter(nat.Of(1)), o.enter(a), e, o.times)), api.OK
}

// power is a to the e, by a way to multiply and what is 1 in it.
func power(one, a, e api.Nat, times func(x, y api.Nat) api.Nat) api.Nat {
	digits := nat.Bits(e)
	out := one
	for i := range digits {
		out = times(out, out)
		if nat.Bit(e, digits-1-i) == 1 {
			out = times(out, a)
		}
	}
	return out
}

// odd is an odd number n, modulo which one multiplies by Montgomery's way: a number there stands for the one that it is the product of with R, R being 2 to the 64 times n's limbs.
type odd struct {
	// n has limbs enough for four times itself: so numbers below twice n stay below that, and nothing is to be taken off behind each product.
	n api.Nat
	// minus times n's lowest limb is -1 modulo 2^64.
	minus uint64
}

// oddOf makes an odd number ready.
func oddOf(n api.Nat) odd {
	inverse := n[0]
	// An odd number is its own inverse modulo 8, and each step makes twice as many digits right: 3, 6, 12, 24, 48, 96.
	for range 5 {
		inverse *= 2 - n[0]*inverse
	}
	size := (nat.Bits(n) + 2 + limbBits - 1) / limbBits
	return odd{n: filled(n, size), minus: -inverse}
}

// enter is a number as it stands in Montgomery's way.
func (o odd) enter(a api.Nat) api.Nat {
	// Not by nat.Shift, which goes no further than 65536 digits.
	raised := append(make(api.Nat, len(o.n)), a...)
	a, _ = Mod(raised, o.n)
	return filled(a, len(o.n))
}

// leave is the number that one in Montgomery's way stands for.
func (o odd) leave(a api.Nat) api.Nat {
	out, _ := Mod(o.times(a, filled(nat.Of(1), len(o.n))), o.n)
	return out
}

// times is the product of two numbers in Montgomery's way: both are below twice n, and so is what comes.
func (o odd) times(a, b api.Nat) api.Nat {
	out := make(api.Nat, len(o.n))
	for i := range len(b) {
		o.addDigit(out, a, b[i])
	}
	return out
}

// addDigit adds a times a digit to u, and n as often as it takes for u's lowest limb to be 0, and drops that limb.
func (o odd) addDigit(u, a api.Nat, digit uint64) {
	often := (u[0] + a[0]*digit) * o.minus
	over, overN, low := uint64(0), uint64(0), uint64(0)
	for i := range len(u) {
		over, low = timesPlus(a[i], digit, u[i], over)
		overN, u[i] = timesPlus(o.n[i], often, low, overN)
	}
	copy(u, u[1:])
	u[len(u)-1] = over + overN
}

// timesPlus is a times b, and c, and d: the upper and the lower limb of it, for more than two it never is.
func timesPlus(a, b, c, d uint64) (uint64, uint64) {
	hi, lo := bits.Mul64(a, b)
	lo, carry := bits.Add64(lo, c, 0)
	hi += carry
	lo, carry = bits.Add64(lo, d, 0)
	return hi + carry, lo
}

// filled is a number in just as many limbs as are asked for, which it must not exceed.
func filled(a api.Nat, size int) api.Nat {
	out := make(api.Nat, size)
	copy(out, a)
	return out
}
