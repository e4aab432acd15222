// Package prime makes numbers of drawn bytes and asks whether they pass as primes, for the layers that make keys and parameters.
package prime

import (
	"iter"

	"clepsydra/api"
	"clepsydra/modn"
	"clepsydra/nat"
)

// byteBits is how many binary digits a byte has.
const byteBits = 8

// Passes tells whether no one of the bases tells that a number is no prime.
func Passes(n api.Nat) bool {
	return modn.Prime(n, []uint64{2, 3, 5, 7, 11, 13, 17, 19, 23, 29, 31, 37})
}

// Candidates yields odd numbers of as many binary digits as are said, made of draws one behind the other, each with how many bytes were used up to its end. As many of the highest digits as are said are set; there must be one digit at least.
func Candidates(draws []byte, digits, set int) iter.Seq2[int, api.Nat] {
	size := (digits + byteBits - 1) / byteBits
	return func(yield func(int, api.Nat) bool) {
		for at := 0; len(draws)-at >= size; at += size {
			if !yield(at+size, candidate(draws[at:at+size], digits, set)) {
				return
			}
		}
	}
}

// candidate is the number of some bytes in as many digits as are said, the highest ones and the lowest one being set.
func candidate(drawn []byte, digits, set int) api.Nat {
	b := make([]byte, len(drawn))
	copy(b, drawn)
	b[0] &= 255 >> (byteBits*len(b) - digits)
	setDigit(b, 0)
	for i := range set {
		setDigit(b, digits-1-i)
	}
	return nat.Read(b)
}

// setDigit sets the binary digit that counts 2 to the i, of bytes of which the greatest is the first.
func setDigit(b []byte, i int) {
	b[len(b)-1-i/byteBits] |= 1 << (i % byteBits)
}
