package pkey_test

import (
	"math/big"
	"slices"
	"testing"

	"clepsydra/api"
	"clepsydra/nat"
	"clepsydra/pkey"
)

// P5.1: Right, Size, Public.

func TestRight(t *testing.T) {
	three, odd := api.Nat{3}, near(200, 77)
	for _, c := range []struct {
		k    api.Key
		want api.Errno
	}{
		{api.Key{N: odd, E: three}, api.OK},
		{api.Key{N: odd, E: three, D: api.Nat{2}}, api.OK},
		// N.
		{api.Key{N: api.Nat{32767}, E: three}, api.ErrKey},
		{api.Key{N: api.Nat{32769}, E: three}, api.OK},
		{api.Key{N: api.Nat{32769, 0, 0}, E: three}, api.OK},
		{api.Key{N: api.Nat{32768}, E: three}, api.ErrKey},
		{api.Key{N: api.Nat{65535}, E: three}, api.OK},
		{api.Key{N: near(1024, -1), E: three}, api.OK},
		{api.Key{N: append(near(1024, -1), 0, 0), E: three}, api.OK},
		{api.Key{N: near(1024, 1), E: three}, api.ErrKey},
		{api.Key{N: near(1024, -2), E: three}, api.ErrKey},
		{api.Key{N: near(200, 76), E: three}, api.ErrKey},
		{api.Key{N: api.Nat{0, 0, 0}, E: three}, api.ErrKey},
		{api.Key{E: three}, api.ErrKey},
		// E.
		{api.Key{N: odd}, api.ErrKey},
		{api.Key{N: odd, E: api.Nat{0, 0}}, api.ErrKey},
		{api.Key{N: odd, E: api.Nat{1}}, api.ErrKey},
		{api.Key{N: odd, E: api.Nat{1, 0}}, api.ErrKey},
		{api.Key{N: odd, E: api.Nat{2}}, api.ErrKey},
		{api.Key{N: odd, E: api.Nat{3, 0, 0, 0, 0, 0}}, api.OK},
		{api.Key{N: odd, E: api.Nat{1, 1}}, api.OK},
		{api.Key{N: odd, E: api.Nat{0, 1}}, api.ErrKey},
		{api.Key{N: odd, E: near(200, 75)}, api.OK},
		{api.Key{N: odd, E: near(200, 76)}, api.ErrKey},
		{api.Key{N: odd, E: odd}, api.ErrKey},
		{api.Key{N: odd, E: near(200, 79)}, api.ErrKey},
		// D.
		{api.Key{N: odd, E: three, D: api.Nat{0, 0}}, api.OK},
		{api.Key{N: odd, E: three, D: api.Nat{1}}, api.OK},
		{api.Key{N: odd, E: three, D: near(200, 76)}, api.OK},
		{api.Key{N: odd, E: three, D: append(near(200, 76), 0, 0)}, api.OK},
		{api.Key{N: odd, E: three, D: odd}, api.ErrKey},
		{api.Key{N: odd, E: three, D: near(200, 78)}, api.ErrKey},
		{api.Key{N: odd, E: three, D: near(2000, 0)}, api.ErrKey},
	} {
		if got := pkey.Right(c.k); got != c.want {
			t.Errorf("Right(%x) = %v, want %v", c.k, got, c.want)
		}
	}
	for _, k := range strange() {
		if got := pkey.Right(k); got != api.ErrKey {
			t.Errorf("Right(%x) = %v", k, got)
		}
	}
}

func TestSize(t *testing.T) {
	for _, c := range []struct {
		n    api.Nat
		want int
	}{
		{nil, 0}, {api.Nat{0, 0}, 0}, {api.Nat{1}, 1}, {api.Nat{255}, 1}, {api.Nat{256}, 2}, {api.Nat{65535, 0}, 2}, {api.Nat{65536}, 3},
		{api.Nat{ones}, 8}, {api.Nat{0, 1}, 9}, {api.Nat{0, 255, 0, 0}, 9}, {api.Nat{0, 256}, 10},
		{near(208, -1), 26}, {near(208, 0), 27}, {near(1024, -1), 128}, {near(60000, 0), 7501},
	} {
		if got := pkey.Size(api.Key{N: c.n, E: api.Nat{ones, ones}, D: api.Nat{7}}); got != c.want {
			t.Errorf("Size of %x = %d, want %d", c.n, got, c.want)
		}
	}
}

func TestPublic(t *testing.T) {
	for _, k := range append(strange(), api.Key{N: api.Nat{64507, 0, 0}, E: api.Nat{17, 0}, D: api.Nat{26353}}, handMade(1, 300)) {
		got := pkey.Public(k)
		if !slices.Equal(got.N, k.N) || !slices.Equal(got.E, k.E) || len(got.D) != 0 {
			t.Errorf("Public(%x) = %x", k, got)
		}
	}
}

// P5.2: Make.

func TestMake(t *testing.T) {
	for _, c := range []struct {
		p, q api.Nat
		e    uint64
	}{
		{nat.Of(251), nat.Of(257), 17}, {nat.Of(257), nat.Of(251), 17}, {api.Nat{257, 0, 0}, api.Nat{251, 0}, 3},
		{nat.Of(3), nat.Of(10937), 3}, {nat.Of(3), nat.Of(65537), 5}, {nat.Of(251), nat.Of(257), 64001}, {nat.Of(251), nat.Of(257), 64003},
		{nat.Of(251), nat.Of(257), 64503}, {near(127, -1), near(107, -1), 65537}, {near(61, -1), near(89, -1), ones - 58},
		{near(512, -569), near(127, -1), 65537}, {near(512, -569), primeOf(1, 512), 65537}, {primeOf(2, 512), near(512, -569), 65537},
		// Of the first one no base from 2 to 37 tells that it is no prime.
		{parse("318665857834031151167461"), nat.Of(257), 7}, {nat.Of(257), parse("318665857834031151167461"), 7},
	} {
		k, e := pkey.Make(c.p, c.q, c.e)
		if e != api.OK {
			t.Errorf("Make(%x, %x, %d): %v", c.p, c.q, c.e, e)
			continue
		}
		one := big.NewInt(1)
		p, q, power := bigOf(c.p), bigOf(c.q), new(big.Int).SetUint64(c.e)
		wantNat(t, "N", k.N, new(big.Int).Mul(p, q))
		wantNat(t, "E", k.E, power)
		below := new(big.Int).Mul(new(big.Int).Sub(p, one), new(big.Int).Sub(q, one))
		wantNat(t, "D", k.D, new(big.Int).ModInverse(power, below))
		if e := pkey.Right(k); e != api.OK {
			t.Errorf("Make(%x, %x, %d) is not right", c.p, c.q, c.e)
		}
	}
}

func TestMakeErrors(t *testing.T) {
	p, q := nat.Of(251), nat.Of(257)
	long := slices.Repeat(api.Nat{ones}, 4000)
	for _, c := range []struct {
		p, q api.Nat
		e    uint64
	}{
		// No primes.
		{nil, q, 17}, {p, nil, 17}, {api.Nat{0, 0}, q, 17}, {nat.Of(1), near(61, -1), 17}, {near(61, -1), nat.Of(1), 17},
		{nat.Of(253), q, 17}, {p, nat.Of(255), 17}, {nat.Of(256), q, 17}, {p, nat.Of(2047), 17}, {nat.Of(3215031751), q, 17},
		// 37 alone tells of it.
		{parse("3825123056546413051"), q, 17}, {q, parse("3825123056546413051"), 17},
		// Both are the same.
		{q, q, 17}, {q, api.Nat{257, 0}, 17}, {nat.Of(65537), nat.Of(65537), 3},
		// Too long, primes or not.
		{near(512, 75), q, 17}, {q, near(512, 75), 17}, {long, q, 17}, {p, long, 17}, {long, long, 17},
		// E.
		{p, q, 0}, {p, q, 1}, {p, q, 2}, {p, q, 4}, {p, q, 16}, {p, q, ones - 1},
		{p, q, 5}, {p, q, 15}, {nat.Of(263), q, 131}, {q, nat.Of(263), 131}, {nat.Of(7), near(61, -1), 3},
		// N is even, or has but 15 digits, or is not above E.
		{nat.Of(2), near(61, -1), 17}, {near(61, -1), nat.Of(2), 17}, {nat.Of(127), q, 5}, {nat.Of(3), nat.Of(10909), 5},
		{p, q, 64507}, {p, q, 64509}, {p, q, ones}, {p, q, ones - 58},
	} {
		k, e := pkey.Make(c.p, c.q, c.e)
		wantNoKey(t, "Make of "+bigOf(c.p).String()+", "+bigOf(c.q).String(), k, e, api.ErrKey)
	}
}

func TestMakeOfSmallNumbers(t *testing.T) {
	for p := range uint64(60) {
		for q := uint64(1000); q < 1120; q++ {
			for _, e := range []uint64{3, 5, 7, 9, 33, 10007} {
				k, errno := pkey.Make(nat.Of(p), nat.Of(q), e)
				ok := new(big.Int).SetUint64(p).ProbablyPrime(0) && new(big.Int).SetUint64(q).ProbablyPrime(0) &&
					p > 2 && p*q >= 1<<15 && p*q > e
				below := new(big.Int).SetUint64((p - 1) * (q - 1))
				d := new(big.Int).ModInverse(new(big.Int).SetUint64(e), below)
				if !ok || d == nil {
					wantNoKey(t, "Make", k, errno, api.ErrKey)
					continue
				}
				if errno != api.OK {
					t.Fatalf("Make(%d, %d, %d): %v", p, q, e, errno)
				}
				wantNat(t, "N", k.N, new(big.Int).SetUint64(p*q))
				wantNat(t, "E", k.E, new(big.Int).SetUint64(e))
				wantNat(t, "D", k.D, d)
			}
		}
	}
}
