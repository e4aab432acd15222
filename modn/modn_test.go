package modn_test

import (
	"math/big"
	"testing"

	"clepsydra/api"
	"clepsydra/modn"
	"clepsydra/nat"
)

// P3.1: Mod, Mul.

func TestMod(t *testing.T) {
	for _, a := range numbers() {
		for _, n := range numbers() {
			got, e := modn.Mod(a, n)
			if nat.Bits(n) == 0 {
				wantError(t, "Mod by 0", got, e, api.ErrZero)
				continue
			}
			want(t, "Mod", got, e, new(big.Int).Mod(bigOf(a), bigOf(n)))
		}
	}
}

func TestMul(t *testing.T) {
	for _, a := range numbers() {
		for _, b := range numbers() {
			product := new(big.Int).Mul(bigOf(a), bigOf(b))
			for _, n := range numbers() {
				got, e := modn.Mul(a, b, n)
				if nat.Bits(n) == 0 {
					wantError(t, "Mul by 0", got, e, api.ErrZero)
					continue
				}
				want(t, "Mul", got, e, new(big.Int).Mod(product, bigOf(n)))
			}
		}
	}
}

// P3.2: Gcd, Inverse.

func TestGcd(t *testing.T) {
	for _, a := range numbers() {
		for _, b := range numbers() {
			want(t, "Gcd", modn.Gcd(a, b), api.OK, new(big.Int).GCD(nil, nil, bigOf(a), bigOf(b)))
		}
	}
	for _, c := range []struct{ a, b, want uint64 }{
		{12, 18, 6}, {18, 12, 6}, {0, 5, 5}, {5, 0, 5}, {0, 0, 0}, {1, 0, 1}, {7, 7, 7}, {35, 64, 1}, {1, 99, 1},
	} {
		if got := modn.Gcd(nat.Of(c.a), nat.Of(c.b)); nat.Cmp(got, nat.Of(c.want)) != 0 {
			t.Errorf("Gcd(%d, %d) = %v, want %d", c.a, c.b, got, c.want)
		}
	}
}

// inverted fails, if Inverse does not answer as the library does.
func inverted(t *testing.T, a, n api.Nat) {
	t.Helper()
	got, e := modn.Inverse(a, n)
	one := big.NewInt(1)
	switch divisor := new(big.Int).GCD(nil, nil, bigOf(a), bigOf(n)); {
	case nat.Bits(n) == 0:
		wantError(t, "Inverse by 0", got, e, api.ErrZero)
	case divisor.Cmp(one) != 0:
		wantError(t, "Inverse", got, e, api.ErrCoprime)
	case bigOf(n).Cmp(one) == 0:
		want(t, "Inverse modulo 1", got, e, new(big.Int))
	default:
		want(t, "Inverse", got, e, new(big.Int).ModInverse(bigOf(a), bigOf(n)))
	}
}

func TestInverse(t *testing.T) {
	for _, a := range numbers() {
		for _, n := range numbers() {
			inverted(t, a, n)
		}
	}
	for a := range uint64(70) {
		for n := range uint64(70) {
			inverted(t, nat.Of(a), nat.Of(n))
		}
	}
}

func TestInverseExamples(t *testing.T) {
	for _, c := range []struct{ a, n, want uint64 }{
		{3, 7, 5}, {10, 7, 5}, {1, 2, 1}, {6, 7, 6}, {0, 1, 0}, {5, 1, 0}, {17, 64000, 26353},
	} {
		got, e := modn.Inverse(nat.Of(c.a), nat.Of(c.n))
		want(t, "Inverse", got, e, new(big.Int).SetUint64(c.want))
	}
	for _, c := range []struct {
		a, n uint64
		code api.Errno
	}{
		{2, 4, api.ErrCoprime}, {0, 7, api.ErrCoprime}, {7, 7, api.ErrCoprime}, {14, 7, api.ErrCoprime}, {6, 9, api.ErrCoprime},
		{1, 0, api.ErrZero}, {0, 0, api.ErrZero}, {2, 0, api.ErrZero},
	} {
		got, e := modn.Inverse(nat.Of(c.a), nat.Of(c.n))
		wantError(t, "Inverse", got, e, c.code)
	}
}
