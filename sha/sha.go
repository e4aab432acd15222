// Package sha is layer 2: it makes digests (SHA-256). See shared/doc/02-sha.md.
package sha

import (
	"clepsydra/api"
)

// sumBytes is how many bytes a digest has.
const sumBytes = 32

// Hash takes bytes and tells their digest. One that no call made has taken nothing.
type Hash struct {
	// words are the changed words, once bytes were taken.
	words [8]uint32
	// rest is what was taken behind the last whole block.
	rest  []byte
	taken int
}

// New is a Hash that has taken nothing.
func New() *Hash { return &Hash{} }

// Write takes bytes.
func (h *Hash) Write(b []byte) api.Errno {
	if h == nil {
		return api.ErrNil
	}
	h.words = h.changed(b)
	h.rest = leftOver(h.rest, b)
	h.taken += len(b)
	return api.OK
}

// Sum is the digest of what was taken.
func (h *Hash) Sum() [32]byte {
	if h == nil {
		return [32]byte{}
	}
	return digest(h.changed(padding(h.taken)))
}

// Len is how many bytes were taken.
func (h *Hash) Len() int {
	if h == nil {
		return 0
	}
	return h.taken
}

// Reset forgets what was taken.
func (h *Hash) Reset() api.Errno {
	if h == nil {
		return api.ErrNil
	}
	*h = Hash{}
	return api.OK
}

// Sum is the digest of some bytes.
func Sum(b []byte) [32]byte {
	return digest(change(firstWords(), b, padding(len(b))))
}

// Trunc is the beginning of a digest.
func Trunc(b []byte, n int) ([]byte, api.Errno) {
	if n < 0 || n > sumBytes {
		return nil, api.ErrArg
	}
	sum := Sum(b)
	out := make([]byte, n)
	copy(out, sum[:])
	return out, api.OK
}

// Keyed is the digest of a key and some bytes.
func Keyed(key, b []byte) [32]byte {
	h := New()
	h.Write(key)
	h.Write(b)
	return h.Sum()
}

// Expand makes as many bytes of a seed as are asked for.
func Expand(seed []byte, n int) ([]byte, api.Errno) {
	if n < 0 {
		return nil, api.ErrArg
	}
	if n > api.MaxExpand {
		return nil, api.ErrLong
	}
	seeded := New()
	seeded.Write(seed)
	out := make([]byte, n)
	for at := 0; at < n; at += sumBytes {
		// A copy, so that the seed is taken but once.
		h := *seeded
		number := bytesOf(uint32(at / sumBytes))
		h.Write(number[:])
		sum := h.Sum()
		copy(out[at:], sum[:])
	}
	return out, api.OK
}

// changed is the words as they are behind the whole blocks of what is left over and of b.
func (h *Hash) changed(b []byte) [8]uint32 {
	words := h.words
	if h.taken == 0 {
		words = firstWords()
	}
	return change(words, h.rest, b)
}
