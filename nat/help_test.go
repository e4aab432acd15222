package nat_test

import (
	"math/big"
	"slices"
	"testing"

	"clepsydra/api"
	"clepsydra/nat"
)

const ones = 1<<64 - 1

// bigOf is a number as the library has it.
func bigOf(a api.Nat) *big.Int {
	b := make([]byte, 0, 8*len(a))
	for _, limb := range slices.Backward(a) {
		for place := 56; place >= 0; place -= 8 {
			b = append(b, byte(limb>>place))
		}
	}
	return new(big.Int).SetBytes(b)
}

// same fails, if a number is not the one that is wanted, or is not trimmed.
func same(t *testing.T, what string, got api.Nat, want *big.Int) {
	t.Helper()
	if bigOf(got).Cmp(want) != 0 {
		t.Fatalf("%s = %x, want %x", what, bigOf(got), want)
	}
	if len(got) > 0 && got[len(got)-1] == 0 {
		t.Fatalf("%s = %v: not trimmed", what, got)
	}
}

// chance is a row of numbers that is the same in each run.
type chance uint64

func (c *chance) next() uint64 {
	x := uint64(*c)
	x ^= x << 13
	x ^= x >> 7
	x ^= x << 17
	*c = chance(x)
	return x
}

func (c *chance) nat(limbs int) api.Nat {
	a := make(api.Nat, limbs)
	for i := range a {
		switch c.next() % 8 {
		case 0:
			a[i] = 0
		case 1:
			a[i] = ones
		default:
			a[i] = c.next()
		}
	}
	return a
}

// numbers are edges and others, trimmed or not.
func numbers() []api.Nat {
	l := []api.Nat{
		nil, {}, {0}, {0, 0, 0},
		{1}, {1, 0}, {2}, {3}, {255}, {256},
		{1 << 32}, {1<<63 - 1}, {1 << 63}, {ones - 1}, {ones}, {ones, 0, 0},
		{0, 1}, {1, 1}, {0, 1, 0}, {0, 1 << 63}, {ones, 1<<63 - 1},
		{ones, ones}, {0, 0, 1}, {0, 0, 1, 0}, {ones, 0, ones}, {0, ones, 0, 0},
		{ones, ones, ones}, {ones, ones, ones, ones}, {0, 0, 0, 0, 0, 1}, {1, 0, 0, 0, 0, 1 << 63},
	}
	c := chance(20261118)
	for limbs := 1; limbs <= 20; limbs++ {
		l = append(l, c.nat(limbs))
	}
	return l
}

// guarded is a copy of a number with room behind it, where something stands, and what tells whether all of it is as it was.
func guarded(a api.Nat) (api.Nat, func() bool) {
	all := append(slices.Clone(a), 77, ones, 1, 78)
	before := slices.Clone(all)
	return all[:len(a)], func() bool { return slices.Equal(all, before) }
}

// fill writes over all of a number's memory.
func fill(a api.Nat) {
	for i := range a[:cap(a)] {
		a[:cap(a)][i] = 0x5555
	}
}

// call is a function, done on two numbers, that answers numbers.
type call struct {
	name string
	do   func(a, b api.Nat) []api.Nat
}

// calls are all functions that answer numbers and are given some.
func calls() []call {
	return []call{
		{"Trim", func(a, _ api.Nat) []api.Nat { return []api.Nat{nat.Trim(a)} }},
		{"Add", func(a, b api.Nat) []api.Nat { return []api.Nat{nat.Add(a, b)} }},
		{"Sub", func(a, b api.Nat) []api.Nat { d, _ := nat.Sub(a, b); return []api.Nat{d} }},
		{"Mul", func(a, b api.Nat) []api.Nat { return []api.Nat{nat.Mul(a, b)} }},
		{"Div", func(a, b api.Nat) []api.Nat { q, r, _ := nat.Div(a, b); return []api.Nat{q, r} }},
		{"Shift by 0", func(a, _ api.Nat) []api.Nat { return []api.Nat{nat.Shift(a, 0)} }},
		{"Shift by 3", func(a, _ api.Nat) []api.Nat { return []api.Nat{nat.Shift(a, 3)} }},
		{"Shift by 64", func(a, _ api.Nat) []api.Nat { return []api.Nat{nat.Shift(a, 64)} }},
		{"Shift by -3", func(a, _ api.Nat) []api.Nat { return []api.Nat{nat.Shift(a, -3)} }},
		{"Shift by -64", func(a, _ api.Nat) []api.Nat { return []api.Nat{nat.Shift(a, -64)} }},
	}
}
