package pkey_test

import (
	"bytes"
	"math/big"
	"math/rand"
	"slices"
	"testing"

	"clepsydra/api"
	"clepsydra/nat"
	"clepsydra/pkey"
)

const ones = 1<<64 - 1

// bigOf is a number as the library has it.
func bigOf(a api.Nat) *big.Int {
	b, _ := nat.Write(a, 8*len(a))
	return new(big.Int).SetBytes(b)
}

// natOf is a number of the library as the program has it.
func natOf(b *big.Int) api.Nat { return nat.Read(b.Bytes()) }

// parse is the number of some digits of ten.
func parse(text string) api.Nat {
	b, ok := new(big.Int).SetString(text, 10)
	if !ok {
		panic("no number: " + text)
	}
	return natOf(b)
}

// near is 2 to some power, and some more, or less.
func near(power uint, more int64) api.Nat {
	b := new(big.Int).Lsh(big.NewInt(1), power)
	return natOf(b.Add(b, big.NewInt(more)))
}

// wantNat fails, if a number is not the one that is wanted, or is not trimmed.
func wantNat(t *testing.T, what string, got api.Nat, want *big.Int) {
	t.Helper()
	if bigOf(got).Cmp(want) != 0 {
		t.Fatalf("%s = %x, want %x", what, bigOf(got), want)
	}
	if len(got) > 0 && got[len(got)-1] == 0 {
		t.Fatalf("%s = %v: not trimmed", what, got)
	}
}

// wantNoKey fails, if an answer is not the error that is wanted, and nothing else.
func wantNoKey(t *testing.T, what string, k api.Key, e, want api.Errno) {
	t.Helper()
	if e != want || len(k.N)+len(k.E)+len(k.D) > 0 {
		t.Errorf("%s = %v, %v, want the error %v", what, k, e, want)
	}
}

// wantBytes fails, if an answer is not the bytes that are wanted, and the error.
func wantBytes(t *testing.T, what string, got []byte, e api.Errno, want []byte, code api.Errno) {
	t.Helper()
	if e != code || !bytes.Equal(got, want) {
		t.Fatalf("%s = %x, %v, want %x, %v", what, got, e, want, code)
	}
}

// raised is a key's work as the library does it.
func raised(k api.Key, power api.Nat, b []byte) []byte {
	n := new(big.Int).Exp(new(big.Int).SetBytes(b), bigOf(power), bigOf(k.N))
	return n.FillBytes(make([]byte, (bigOf(k.N).BitLen()+7)/8))
}

// drawn is as many bytes as are said, the same ones in each run.
func drawn(seed int64, n int) []byte {
	b := make([]byte, n)
	rand.New(rand.NewSource(seed)).Read(b)
	return b
}

// primeOf is a prime of about as many digits as are said, the same one in each run; 65537 does not part one less.
func primeOf(seed int64, digits int) api.Nat {
	n := new(big.Int).SetBytes(drawn(seed, (digits+7)/8))
	n.Mod(n, new(big.Int).Lsh(big.NewInt(1), uint(digits-1)))
	n.SetBit(n.SetBit(n, digits-1, 1), 0, 1)
	for !n.ProbablyPrime(10) || new(big.Int).Mod(n, big.NewInt(65537)).Int64() == 1 {
		n.Add(n, big.NewInt(2))
	}
	return natOf(n)
}

// keyOf is a key of two primes whose N has about as many digits as are said.
func keyOf(t *testing.T, seed int64, digits int) api.Key {
	t.Helper()
	k, e := pkey.Make(primeOf(seed, digits/2), primeOf(seed+1000, digits-digits/2), 65537)
	if e != api.OK {
		t.Fatalf("no key of %d digits: %v", digits, e)
	}
	return k
}

// handMade is a right key that is made of no primes, whose N has just as many digits as are said.
func handMade(seed int64, digits int) api.Key {
	n := new(big.Int).SetBytes(drawn(seed, (digits+7)/8))
	n.Mod(n, new(big.Int).Lsh(big.NewInt(1), uint(digits)))
	n.SetBit(n.SetBit(n, digits-1, 1), 0, 1)
	d := new(big.Int).Sub(n, big.NewInt(int64(1+seed%7)))
	return api.Key{N: natOf(n), E: nat.Of(uint64(3 + 2*(seed%5))), D: natOf(d)}
}

// strange are keys that are not right.
func strange() []api.Key {
	n := api.Nat{ones, ones, ones, ones}
	return []api.Key{
		{}, {N: api.Nat{0, 0}, E: api.Nat{3}, D: api.Nat{1}}, {N: n}, {N: n, D: api.Nat{7}}, {N: n, E: api.Nat{1}, D: api.Nat{7}},
		{N: n, E: api.Nat{4}, D: api.Nat{7}}, {N: n, E: n, D: api.Nat{7}}, {N: n, E: api.Nat{3}, D: n},
		{N: api.Nat{ones - 1, 5, 9, 4}, E: api.Nat{3}, D: api.Nat{7}}, {N: api.Nat{1}, E: api.Nat{3}, D: api.Nat{7}},
		{N: api.Nat{32767}, E: api.Nat{3}, D: api.Nat{7}}, {N: near(1024, 1), E: api.Nat{3}, D: api.Nat{7}},
		{N: slices.Repeat(n, 300), E: api.Nat{3}, D: api.Nat{7}}, {E: api.Nat{3}, D: api.Nat{7}},
	}
}

// keptNat is a copy of a number, with other limbs behind its end, and what tells whether all of it is as it was.
func keptNat(a api.Nat) (api.Nat, func() bool) {
	whole := slices.Concat(a, api.Nat{5, ones, 6})
	before := slices.Clone(whole)
	return whole[:len(a)], func() bool { return slices.Equal(whole, before) }
}

// keptBytes is the same of bytes.
func keptBytes(b []byte) ([]byte, func() bool) {
	whole := slices.Concat(b, []byte{5, 255, 6, 1, 2, 3})
	before := slices.Clone(whole)
	return whole[:len(b)], func() bool { return slices.Equal(whole, before) }
}

// keptKey is the same of a key.
func keptKey(k api.Key) (api.Key, func() bool) {
	n, nKept := keptNat(k.N)
	e, eKept := keptNat(k.E)
	d, dKept := keptNat(k.D)
	return api.Key{N: n, E: e, D: d}, func() bool { return nKept() && eKept() && dKept() }
}

// fill writes over all of a list's memory.
func fill[T uint64 | byte](l []T) {
	for i := range l[:cap(l)] {
		l[:cap(l)][i] = 0x5c
	}
}

// sameKey tells whether two keys have the same limbs.
func sameKey(a, b api.Key) bool {
	return slices.Equal(a.N, b.N) && slices.Equal(a.E, b.E) && slices.Equal(a.D, b.D)
}
