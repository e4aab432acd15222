package modn

import (
	"slices"

	"clepsydra/api"
	"clepsydra/nat"
)

// Tells tells whether a base shows that n is no prime.
func Tells(n api.Nat, base uint64) bool { return question(n)(base) }

// Prime tells whether no base shows that n is no prime.
func Prime(n api.Nat, bases []uint64) bool {
	return nat.Cmp(n, nat.Of(2)) >= 0 && !slices.ContainsFunc(bases, question(n))
}

// Sure tells whether n is a prime.
func Sure(n uint32) bool {
	// Held against the quotient: a square could leave 32 bits.
	for d := uint32(2); d <= n/d; d++ {
		if n%d == 0 {
			return false
		}
	}
	return n >= 2
}

// question is what is asked of each base: does it tell that n is no prime? What hangs on n alone is worked out once.
func question(n api.Nat) func(base uint64) bool {
	if nat.Bit(n, 0) == 0 || nat.Bits(n) < 2 {
		told := nat.Cmp(n, nat.Of(2)) != 0
		return func(uint64) bool { return told }
	}
	last, _ := nat.Sub(n, nat.Of(1))
	twos := twosOf(last)
	oddPart := nat.Shift(last, -twos)
	return func(base uint64) bool {
		a, _ := Mod(nat.Of(base), n)
		if isNought(a) {
			return false
		}
		a, _ = Pow(a, oddPart, n)
		return nat.Cmp(a, nat.Of(1)) != 0 && !squaresTo(a, last, n, twos)
	}
}

// squaresTo tells whether a, or what squaring makes of it modulo n, is the number looked for, among as many numbers as are said.
func squaresTo(a, wanted, n api.Nat, among int) bool {
	for range among {
		if nat.Cmp(a, wanted) == 0 {
			return true
		}
		a, _ = Mul(a, a, n)
	}
	return false
}

// twosOf is how often 2 parts a number above 0.
func twosOf(a api.Nat) int {
	twos := 0
	for nat.Bit(a, twos) == 0 {
		twos++
	}
	return twos
}
