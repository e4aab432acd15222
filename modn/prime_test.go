package modn_test

import (
	"math"
	"math/big"
	"slices"
	"testing"

	"clepsydra/api"
	"clepsydra/modn"
	"clepsydra/nat"
)

// P3.3: Tells, Prime, Sure.

// tells is what Tells is to answer, word by word.
func tells(number api.Nat, base uint64) bool {
	one, n := big.NewInt(1), bigOf(number)
	if n.Cmp(one) <= 0 {
		return true
	}
	if n.Bit(0) == 0 {
		return n.Cmp(big.NewInt(2)) > 0
	}
	last := new(big.Int).Sub(n, one)
	s := last.TrailingZeroBits()
	d := new(big.Int).Rsh(last, s)
	b := new(big.Int).SetUint64(base)
	if new(big.Int).Mod(b, n).Sign() == 0 || new(big.Int).Exp(b, d, n).Cmp(one) == 0 {
		return false
	}
	for i := range s {
		if new(big.Int).Exp(b, new(big.Int).Lsh(d, i), n).Cmp(last) == 0 {
			return false
		}
	}
	return true
}

// primes tells of each number below end whether it is a prime.
func primes(end int) []bool {
	out := slices.Repeat([]bool{true}, end)
	out[0], out[1] = false, false
	for d := 2; d*d < end; d++ {
		for n := d * d; out[d] && n < end; n += d {
			out[n] = false
		}
	}
	return out
}

// largePrimes are primes of many sizes, some with many twos in the number below.
func largePrimes() []api.Nat {
	power := func(times int64, digits uint, more int64) api.Nat {
		b := new(big.Int).Lsh(big.NewInt(times), digits)
		return natOf(b.Add(b, big.NewInt(more)))
	}
	return []api.Nat{
		power(1, 31, -1), power(1, 16, 1), power(1, 61, -1), power(1, 64, -59), power(1, 64, 13), power(1, 127, -1),
		power(3, 189, 1), power(1, 255, -19), power(1, 521, -1), append(power(1, 89, -1), 0, 0),
	}
}

func TestTellsOfSmallNumbers(t *testing.T) {
	for n := range uint64(400) {
		for base := range uint64(410) {
			if got, want := modn.Tells(nat.Of(n), base), tells(nat.Of(n), base); got != want {
				t.Fatalf("Tells(%d, %d) = %v", n, base, got)
			}
		}
	}
}

func TestTells(t *testing.T) {
	l := append(numbers(), largePrimes()...)
	for _, p := range largePrimes() {
		l = append(l, nat.Mul(p, p), nat.Mul(p, nat.Of(3)), nat.Add(p, nat.Of(2)))
	}
	for _, n := range l {
		for _, base := range []uint64{0, 1, 2, 3, 9, 36, 1 << 32, 1 << 63, ones - 1, ones} {
			if got, want := modn.Tells(n, base), tells(n, base); got != want {
				t.Fatalf("Tells(%v, %d) = %v", n, base, got)
			}
		}
	}
}

func TestTellsExamples(t *testing.T) {
	for _, c := range []struct {
		n, base uint64
		want    bool
	}{
		{9, 2, true}, {7, 2, false}, {0, 2, true}, {1, 2, true}, {0, 0, true}, {1, 0, true}, {2, 0, false}, {2, 2, false}, {2, 3, false},
		{3, 2, false}, {3, 3, false}, {4, 0, true}, {4, 3, true}, {4, 4, true}, {1 << 63, 1, true},
		{9, 0, false}, {9, 9, false}, {9, 18, false}, {9, 1, false}, {9, 8, false}, {9, 3, true}, {9, 11, true},
		{2047, 2, false}, {2047, 3, true}, {561, 2, true}, {1<<32 + 1, 2, false}, {1<<32 + 1, 3, true},
		{3215031751, 2, false}, {3215031751, 3, false}, {3215031751, 5, false}, {3215031751, 7, false}, {3215031751, 11, true},
	} {
		if got := modn.Tells(nat.Of(c.n), c.base); got != c.want {
			t.Errorf("Tells(%d, %d) = %v", c.n, c.base, got)
		}
	}
}

func TestPrime(t *testing.T) {
	for _, c := range []struct {
		n     uint64
		bases []uint64
		want  bool
	}{
		{0, nil, false}, {1, nil, false}, {2, nil, true}, {4, nil, true}, {9, []uint64{}, true},
		{0, []uint64{2}, false}, {1, []uint64{2}, false}, {2, []uint64{2, 3}, true}, {4, []uint64{2}, false}, {4, []uint64{4}, false},
		{9, []uint64{9, 1, 8, 0}, true}, {9, []uint64{9, 1, 2}, false}, {9, []uint64{2, 9, 1}, false}, {9, []uint64{1, 2, 9}, false},
		{2047, []uint64{2}, true}, {2047, []uint64{2, 3}, false}, {7, []uint64{2, 3, 5, 7, 11}, true},
		{3215031751, []uint64{2, 3, 5, 7}, true}, {3215031751, []uint64{2, 3, 5, 7, 11}, false},
	} {
		if got := modn.Prime(nat.Of(c.n), c.bases); got != c.want {
			t.Errorf("Prime(%d, %v) = %v", c.n, c.bases, got)
		}
	}
	for _, n := range noughts {
		if modn.Prime(n, nil) || !modn.Tells(n, 3) {
			t.Errorf("%v: not told", n)
		}
	}
	if modn.Prime(api.Nat{1, 0}, nil) || !modn.Prime(api.Nat{2, 0}, []uint64{2, 3}) {
		t.Error("noughts at the end count")
	}
}

func TestSure(t *testing.T) {
	const end = 1 << 18
	for n, prime := range primes(end) {
		if modn.Sure(uint32(n)) != prime {
			t.Fatalf("Sure(%d) = %v", n, !prime)
		}
	}
	for _, n := range []uint32{65537, 1<<31 - 1, 2147483629, 4294967279, 4294967291, 4294836197} {
		want := new(big.Int).SetUint64(uint64(n)).ProbablyPrime(0)
		if modn.Sure(n) != want {
			t.Errorf("Sure(%d) = %v", n, !want)
		}
	}
	for _, n := range []uint32{65536, 65535 * 65535, 65521 * 65521, 65521 * 65519, 3215031751, 25326001, math.MaxUint32, 1 << 31} {
		if modn.Sure(n) {
			t.Errorf("Sure(%d) = true", n)
		}
	}
}

// P3.7: no base tells of a prime.
func TestNoBaseTellsOfAPrime(t *testing.T) {
	for n, prime := range primes(600) {
		for base := range uint64(600) {
			if prime && modn.Tells(nat.Of(uint64(n)), base) {
				t.Fatalf("%d tells of %d", base, n)
			}
		}
	}
	for _, p := range largePrimes() {
		for base := range uint64(60) {
			if modn.Tells(p, base) || modn.Tells(p, ones-base) {
				t.Fatalf("%d, or as much below 2^64, tells of %v", base, p)
			}
		}
	}
}

// P3.7: of the numbers below 2^31 that are none one of 2, 3, 5, 7 tells it.
func TestFourBasesTell(t *testing.T) {
	four := []uint64{2, 3, 5, 7}
	for n, prime := range primes(1 << 15) {
		if modn.Prime(nat.Of(uint64(n)), four) != prime {
			t.Fatalf("Prime(%d) = %v", n, !prime)
		}
	}
	// Those of which 2, 3 and 5 don't tell, and others near the bound.
	for _, n := range []uint32{25326001, 161304001, 960946321, 1157839381} {
		if !modn.Prime(nat.Of(uint64(n)), four[:3]) || modn.Prime(nat.Of(uint64(n)), four) {
			t.Errorf("of %d not just 7 tells", n)
		}
	}
	for n := uint32(1<<31 - 3000); n < 1<<31; n++ {
		if modn.Prime(nat.Of(uint64(n)), four) != modn.Sure(n) {
			t.Errorf("Prime(%d) = %v", n, !modn.Sure(n))
		}
	}
}
