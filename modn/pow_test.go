package modn_test

import (
	"math/big"
	"math/rand"
	"testing"

	"clepsydra/api"
	"clepsydra/modn"
	"clepsydra/nat"
)

// P3.1: Pow.

// raised fails, if Pow does not answer as the library does.
func raised(t *testing.T, a, e, n api.Nat) {
	t.Helper()
	got, code := modn.Pow(a, e, n)
	if nat.Bits(n) == 0 {
		wantError(t, "Pow by 0", got, code, api.ErrZero)
		return
	}
	power := new(big.Int).Exp(bigOf(a), bigOf(e), bigOf(n))
	want(t, "Pow", got, code, power.Mod(power, bigOf(n)))
}

func TestPow(t *testing.T) {
	exponents := []api.Nat{nil, {0, 0}, {1}, {1, 0}, {2}, {3, 0, 0}, {5}, {65537}, {ones}, {0, 1}, {ones, 1}}
	for _, a := range numbers() {
		for _, n := range numbers() {
			for _, e := range exponents {
				raised(t, a, e, n)
			}
		}
	}
	for _, e := range numbers() {
		for _, n := range numbers() {
			raised(t, api.Nat{3}, e, n)
			raised(t, api.Nat{ones, ones, 7}, e, n)
		}
	}
}

func TestPowOfSmallNumbers(t *testing.T) {
	for n := range uint64(40) {
		for a := range uint64(45) {
			for e := range uint64(12) {
				raised(t, nat.Of(a), nat.Of(e), nat.Of(n))
			}
		}
	}
}

func TestPowExamples(t *testing.T) {
	for _, c := range []struct{ a, e, n, want uint64 }{
		{3, 5, 7, 5}, {2, 11, 23, 1}, {2, 8, 23, 3}, {2, 10, 1000, 24}, {7, 0, 5, 1}, {7, 0, 6, 1},
		{0, 0, 5, 1}, {0, 0, 6, 1}, {0, 0, 1, 0}, {9, 0, 1, 0}, {0, 3, 5, 0}, {0, 3, 4, 0}, {5, 3, 1, 0}, {5, 1, 2, 1},
	} {
		got, e := modn.Pow(nat.Of(c.a), nat.Of(c.e), nat.Of(c.n))
		want(t, "Pow", got, e, new(big.Int).SetUint64(c.want))
	}
}

// Of each count of limbs there are numbers that nearly fill them, and some that just begin one.
func TestPowAtEachSize(t *testing.T) {
	r := rand.New(rand.NewSource(31))
	for limbs := 1; limbs <= 20; limbs++ {
		a, e := drawn(r, limbs), drawn(r, limbs)
		for digits := 64*limbs - 3; digits <= 64*limbs+1; digits++ {
			top := nat.Shift(nat.Of(1), digits)
			below, _ := nat.Sub(top, nat.Of(1))
			for _, n := range []api.Nat{below, top, nat.Add(top, nat.Of(1))} {
				last, _ := nat.Sub(n, nat.Of(1))
				raised(t, a, e, n)
				raised(t, last, e, n)
				raised(t, n, e, n)
			}
		}
	}
}

func TestPowOfAWholeKey(t *testing.T) {
	r := rand.New(rand.NewSource(32))
	for _, low := range []uint64{0, 1} {
		n := drawn(r, api.MaxLimbs)
		n[0] = n[0]&^1 | low
		raised(t, drawn(r, api.MaxLimbs), drawn(r, api.MaxLimbs), n)
	}
}

// Numbers of more digits than nat.Shift moves.
func TestPowOfLongNumbers(t *testing.T) {
	r := rand.New(rand.NewSource(33))
	for _, low := range []uint64{0, 1} {
		n := drawn(r, 1030)
		n[0], n[1029] = n[0]&^1|low, 5
		raised(t, drawn(r, 1040), nat.Of(19), n)
		raised(t, nat.Of(2), nat.Of(70001), n)
	}
	raised(t, nat.Of(6), drawn(r, 100), nat.Of(9))
	raised(t, drawn(r, 3000), nat.Of(7), nat.Of(9))
}
