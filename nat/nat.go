// Package nat is layer 1: it reckons with natural numbers of any size. See shared/doc/01-nat.md.
package nat

import (
	"cmp"
	"math/bits"

	"clepsydra/api"
)

// limbBits is how many binary digits a limb has.
const limbBits = 64

// limbBytes is how many bytes a limb has.
const limbBytes = 8

// maxShift is the greatest power of two that a number is multiplied by.
const maxShift = 65536

// maxWrite is the greatest count of bytes that a number is written as.
const maxWrite = 65536

// Trim takes noughts off the end.
func Trim(a api.Nat) api.Nat {
	a = cut(a)
	out := make(api.Nat, len(a))
	copy(out, a)
	return out
}

// Of is a small number.
func Of(n uint64) api.Nat { return cut(api.Nat{n}) }

// Cmp tells which number is greater.
func Cmp(a, b api.Nat) int {
	a, b = cut(a), cut(b)
	if len(a) != len(b) {
		return cmp.Compare(len(a), len(b))
	}
	for i := range len(a) {
		at := len(a) - 1 - i
		if a[at] != b[at] {
			return cmp.Compare(a[at], b[at])
		}
	}
	return 0
}

// Add is the sum.
func Add(a, b api.Nat) api.Nat {
	a, b = cut(a), cut(b)
	if len(a) < len(b) {
		a, b = b, a
	}
	out := make(api.Nat, len(a)+1)
	copy(out, a)
	addTo(out, b)
	return cut(out)
}

// Sub is the difference.
func Sub(a, b api.Nat) (api.Nat, api.Errno) {
	if Cmp(a, b) < 0 {
		return nil, api.ErrBelow
	}
	b = cut(b)
	out := Trim(a)
	borrow := uint64(0)
	for i := range len(out) {
		out[i], borrow = bits.Sub64(out[i], limb(b, i), borrow)
	}
	return cut(out), api.OK
}

// Mul is the product.
func Mul(a, b api.Nat) api.Nat {
	a, b = cut(a), cut(b)
	out := make(api.Nat, len(a)+len(b))
	for i := range len(a) {
		out[i+len(b)] = addTimes(out[i:i+len(b)], b, a[i])
	}
	return cut(out)
}

// Bits is how many binary digits a number has.
func Bits(a api.Nat) int {
	a = cut(a)
	if len(a) == 0 {
		return 0
	}
	return len(a)*limbBits - bits.LeadingZeros64(a[len(a)-1])
}

// Bit is a binary digit.
func Bit(a api.Nat, i int) int {
	if i < 0 {
		return 0
	}
	return int(limb(a, i/limbBits) >> (i % limbBits) & 1)
}

// Shift is a product with a power of two, or a quotient.
func Shift(a api.Nat, n int) api.Nat {
	a = cut(a)
	if n >= 0 {
		return shiftUp(a, min(n, maxShift))
	}
	// Held against the size first: the least int has no negative.
	if n <= -len(a)*limbBits {
		return nil
	}
	return shiftDown(a, -n)
}

// Read is the number of some bytes.
func Read(b []byte) api.Nat {
	out := make(api.Nat, (len(b)+limbBytes-1)/limbBytes)
	for i := range len(b) {
		digit := uint64(b[len(b)-1-i])
		out[i/limbBytes] |= digit << (i % limbBytes * 8)
	}
	return cut(out)
}

// Write is a number's bytes.
func Write(a api.Nat, n int) ([]byte, api.Errno) {
	if n < 0 || n > maxWrite {
		return nil, api.ErrArg
	}
	if Bits(a) > 8*n {
		return nil, api.ErrWide
	}
	out := make([]byte, n)
	for i := range n {
		out[n-1-i] = byte(limb(a, i/limbBytes) >> (i % limbBytes * 8))
	}
	return out, api.OK
}

// cut is a number without the noughts at its end, in the memory that it has.
func cut(a api.Nat) api.Nat {
	n := len(a)
	for n > 0 && a[n-1] == 0 {
		n--
	}
	return a[:n:n]
}

// limb is a limb of a number, 0 behind its end.
func limb(a api.Nat, i int) uint64 {
	if i >= len(a) {
		return 0
	}
	return a[i]
}

// addTo adds b to u, which has at least as many limbs, and tells what leaves u's highest limb.
func addTo(u, b api.Nat) uint64 {
	carry := uint64(0)
	for i := range len(u) {
		u[i], carry = bits.Add64(u[i], limb(b, i), carry)
	}
	return carry
}

// addTimes adds b times digit to u, which has as many limbs as b, and tells what leaves u's highest limb.
func addTimes(u, b api.Nat, digit uint64) uint64 {
	over := uint64(0)
	for i := range len(b) {
		hi, lo := bits.Mul64(b[i], digit)
		sum, carry := bits.Add64(u[i], lo, 0)
		hi += carry
		u[i], carry = bits.Add64(sum, over, 0)
		over = hi + carry
	}
	return over
}

// shiftUp is a times 2 to the n.
func shiftUp(a api.Nat, n int) api.Nat {
	if len(a) == 0 {
		return nil
	}
	whole, part := n/limbBits, n%limbBits
	out := make(api.Nat, len(a)+whole+1)
	for i := range len(a) {
		out[i+whole] |= a[i] << part
		out[i+whole+1] = a[i] >> (limbBits - part)
	}
	return cut(out)
}

// shiftDown is the whole part of a by 2 to the n, which must leave a limb of a at least.
func shiftDown(a api.Nat, n int) api.Nat {
	whole, part := n/limbBits, n%limbBits
	out := make(api.Nat, len(a)-whole)
	for i := range len(out) {
		out[i] = a[i+whole]>>part | limb(a, i+whole+1)<<(limbBits-part)
	}
	return cut(out)
}
