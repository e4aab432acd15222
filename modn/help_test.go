package modn_test

import (
	"math/big"
	"math/rand"
	"slices"
	"testing"

	"clepsydra/api"
	"clepsydra/nat"
)

const ones = 1<<64 - 1

// noughts are the forms of 0.
var noughts = []api.Nat{nil, {}, {0}, {0, 0, 0}}

// bigOf is a number as the library has it.
func bigOf(a api.Nat) *big.Int {
	b, _ := nat.Write(a, 8*len(a))
	return new(big.Int).SetBytes(b)
}

// natOf is a number of the library as the program has it.
func natOf(b *big.Int) api.Nat { return nat.Read(b.Bytes()) }

// parse is the number of some digits of ten.
func parse(text string) *big.Int {
	b, ok := new(big.Int).SetString(text, 10)
	if !ok {
		panic("no number: " + text)
	}
	return b
}

// want fails, if an answer is not the number that is wanted, trimmed, and OK.
func want(t *testing.T, what string, got api.Nat, e api.Errno, number *big.Int) {
	t.Helper()
	if e != api.OK || bigOf(got).Cmp(number) != 0 {
		t.Fatalf("%s = %x, %v, want %x", what, bigOf(got), e, number)
	}
	if len(got) > 0 && got[len(got)-1] == 0 {
		t.Fatalf("%s = %v: not trimmed", what, got)
	}
}

// wantError fails, if an answer is not the error that is wanted, and nothing else.
func wantError(t *testing.T, what string, got api.Nat, e, code api.Errno) {
	t.Helper()
	if e != code || len(got) != 0 {
		t.Fatalf("%s = %v, %v, want the error %v", what, got, e, code)
	}
}

// drawn is a number of as many limbs, the same one in each run, in which there are limbs of noughts and of ones.
func drawn(r *rand.Rand, limbs int) api.Nat {
	a := make(api.Nat, limbs)
	for i := range a {
		a[i] = [...]uint64{0, ones, r.Uint64(), r.Uint64(), r.Uint64()}[r.Intn(5)]
	}
	return a
}

// numbers are edges and others, odd and even, trimmed or not. With four times 2^62 - 1, 2^63 + 1 and so on a further limb begins.
func numbers() []api.Nat {
	l := append(slices.Clone(noughts),
		api.Nat{1}, api.Nat{1, 0}, api.Nat{2}, api.Nat{3}, api.Nat{4}, api.Nat{9, 0, 0}, api.Nat{12}, api.Nat{18},
		api.Nat{1<<61 + 1}, api.Nat{1<<62 - 1}, api.Nat{1 << 62}, api.Nat{1<<62 + 1}, api.Nat{1<<63 - 1}, api.Nat{1<<63 + 1},
		api.Nat{ones - 1}, api.Nat{ones}, api.Nat{ones, 0, 0}, api.Nat{0, 1}, api.Nat{1, 1}, api.Nat{1, 1, 0},
		api.Nat{ones, 1<<62 - 1}, api.Nat{1, 1 << 62}, api.Nat{ones, ones}, api.Nat{0, 0, 1}, api.Nat{1, 0, 1 << 63},
		api.Nat{ones, 0, ones}, api.Nat{ones, ones, ones, ones}, api.Nat{0, ones, 0, 0}, api.Nat{1, 0, 0, 0, 0, 1 << 62},
	)
	r := rand.New(rand.NewSource(3))
	for limbs := 1; limbs <= 8; limbs++ {
		a, b := drawn(r, limbs), drawn(r, limbs)
		a[0] |= 1
		b[0] &= ones - 1
		l = append(l, a, b)
	}
	return append(l, drawn(r, 17))
}

// kept is a copy of a number, with other limbs behind its end, and what tells whether all of it is as it was.
func kept(a api.Nat) (api.Nat, func() bool) {
	all := slices.Concat(a, api.Nat{5, ones, 6})
	before := slices.Clone(all)
	return all[:len(a)], func() bool { return slices.Equal(all, before) }
}
