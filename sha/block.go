package sha

import (
	"bytes"
	"iter"
	"math/bits"
)

// blockBytes is how many bytes a block has.
const blockBytes = 64

// constants are K0 to K63.
var constants = [64]uint32{
	0x428a2f98, 0x71374491, 0xb5c0fbcf, 0xe9b5dba5, 0x3956c25b, 0x59f111f1, 0x923f82a4, 0xab1c5ed5,
	0xd807aa98, 0x12835b01, 0x243185be, 0x550c7dc3, 0x72be5d74, 0x80deb1fe, 0x9bdc06a7, 0xc19bf174,
	0xe49b69c1, 0xefbe4786, 0x0fc19dc6, 0x240ca1cc, 0x2de92c6f, 0x4a7484aa, 0x5cb0a9dc, 0x76f988da,
	0x983e5152, 0xa831c66d, 0xb00327c8, 0xbf597fc7, 0xc6e00bf3, 0xd5a79147, 0x06ca6351, 0x14292967,
	0x27b70a85, 0x2e1b2138, 0x4d2c6dfc, 0x53380d13, 0x650a7354, 0x766a0abb, 0x81c2c92e, 0x92722c85,
	0xa2bfe8a1, 0xa81a664b, 0xc24b8b70, 0xc76c51a3, 0xd192e819, 0xd6990624, 0xf40e3585, 0x106aa070,
	0x19a4c116, 0x1e376c08, 0x2748774c, 0x34b0bcb5, 0x391c0cb3, 0x4ed8aa4a, 0x5b9cca4f, 0x682e6ff3,
	0x748f82ee, 0x78a5636f, 0x84c87814, 0x8cc70208, 0x90befffa, 0xa4506ceb, 0xbef9a3f7, 0xc67178f2,
}

// firstWords is H0 to H7 ahead of all blocks.
func firstWords() [8]uint32 {
	return [8]uint32{0x6a09e667, 0xbb67ae85, 0x3c6ef372, 0xa54ff53a, 0x510e527f, 0x9b05688c, 0x1f83d9ab, 0x5be0cd19}
}

// change is the words behind the whole blocks of two pieces that stand one behind the other.
func change(words [8]uint32, ahead, b []byte) [8]uint32 {
	for block := range blocks(ahead, b) {
		words = changeBy(words, block)
	}
	return words
}

// blocks yields the whole blocks of two pieces that stand one behind the other.
func blocks(ahead, b []byte) iter.Seq[[]byte] {
	return func(yield func([]byte) bool) {
		end := wholeBytes(ahead, b)
		for at := 0; at < end; at += blockBytes {
			if !yield(part(ahead, b, at, at+blockBytes)) {
				return
			}
		}
	}
}

// leftOver is what stands behind the whole blocks of two pieces, in memory of its own.
func leftOver(ahead, b []byte) []byte {
	return bytes.Clone(part(ahead, b, wholeBytes(ahead, b), len(ahead)+len(b)))
}

// wholeBytes is how many bytes the whole blocks of two pieces have.
func wholeBytes(ahead, b []byte) int {
	return (len(ahead) + len(b)) / blockBytes * blockBytes
}

// part is what stands from one place up to another one in two pieces. Each piece is cut without room behind, for what is put there must not be written over what its memory has.
func part(ahead, b []byte, from, to int) []byte {
	n := len(ahead)
	if to <= n {
		return ahead[from:to:to]
	}
	if from >= n {
		return b[from-n : to-n : to-n]
	}
	return append(ahead[from:n:n], b[:to-n]...)
}

// padding is what stands behind n bytes in the padded text.
func padding(n int) []byte {
	noughts := (2*blockBytes - 9 - n%blockBytes) % blockBytes
	out := make([]byte, 1+noughts+8)
	out[0] = 128
	digits := uint64(n) * 8
	for i := range 8 {
		out[len(out)-1-i] = byte(digits >> (8 * i))
	}
	return out
}

// changeBy is the words as one block changes them.
func changeBy(words [8]uint32, block []byte) [8]uint32 {
	w := schedule(block)
	a, b, c, d := words[0], words[1], words[2], words[3]
	e, f, g, h := words[4], words[5], words[6], words[7]
	for t := range 64 {
		s1 := turned(e, 6) ^ turned(e, 11) ^ turned(e, 25)
		first := h + s1 + (e&f ^ ^e&g) + constants[t] + w[t]
		s0 := turned(a, 2) ^ turned(a, 13) ^ turned(a, 22)
		second := s0 + (a&b ^ a&c ^ b&c)
		h, g, f, e = g, f, e, d+first
		d, c, b, a = c, b, a, first+second
	}
	return [8]uint32{
		words[0] + a, words[1] + b, words[2] + c, words[3] + d,
		words[4] + e, words[5] + f, words[6] + g, words[7] + h,
	}
}

// schedule is a block's words and those that follow from them.
func schedule(block []byte) [64]uint32 {
	var w [64]uint32
	for t := range 16 {
		w[t] = wordOf(block[4*t : 4*t+4])
	}
	for t := 16; t < 64; t++ {
		s0 := turned(w[t-15], 7) ^ turned(w[t-15], 18) ^ w[t-15]>>3
		s1 := turned(w[t-2], 17) ^ turned(w[t-2], 19) ^ w[t-2]>>10
		w[t] = s1 + w[t-7] + s0 + w[t-16]
	}
	return w
}

// turned is a word moved down, what goes out coming in at the top.
func turned(x uint32, n int) uint32 { return bits.RotateLeft32(x, -n) }

// wordOf is the number of four bytes, the greatest first.
func wordOf(b []byte) uint32 {
	return uint32(b[0])<<24 | uint32(b[1])<<16 | uint32(b[2])<<8 | uint32(b[3])
}

// bytesOf is a number's four bytes, the greatest first.
func bytesOf(x uint32) [4]byte {
	return [4]byte{byte(x >> 24), byte(x >> 16), byte(x >> 8), byte(x)}
}

// digest is the bytes of the words.
func digest(words [8]uint32) [32]byte {
	var out [32]byte
	for i, word := range words {
		four := bytesOf(word)
		copy(out[4*i:], four[:])
	}
	return out
}
