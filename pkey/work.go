package pkey

import (
	"bytes"

	"clepsydra/api"
	"clepsydra/modn"
	"clepsydra/nat"
	"clepsydra/sha"
)

// The kinds of what a key works on: the byte behind the first one.
const (
	kindSigned    = 1
	kindEncrypted = 2
)

// frameBytes is how many bytes stand about the filling and the text: 0 and the kind ahead, 0 between.
const frameBytes = 3

// leastFilling is how many filling bytes there must be.
const leastFilling = 8

// digestBytes is how many bytes of a text's digest are signed.
const digestBytes = 16

// leastSigner is the least size of a key that signs.
const leastSigner = frameBytes + leastFilling + digestBytes

// Sign signs a text.
func Sign(k api.Key, text []byte) ([]byte, api.Errno) {
	if e := secretRight(k); e != api.OK {
		return nil, e
	}
	if Size(k) < leastSigner {
		return nil, api.ErrPad
	}
	return work(k, k.D, signed(k, text)), api.OK
}

// Verify tells whether a signature holds.
func Verify(k api.Key, text, sig []byte) bool {
	if Right(k) != api.OK || Size(k) < leastSigner || !fits(k, sig) {
		return false
	}
	return bytes.Equal(work(k, k.E, sig), signed(k, text))
}

// Encrypt encrypts a text.
func Encrypt(k api.Key, text, draws []byte) ([]byte, api.Errno) {
	if e := Right(k); e != api.OK {
		return nil, e
	}
	room := Size(k) - frameBytes - len(text)
	if room < leastFilling {
		return nil, api.ErrPad
	}
	filling := fillingOf(draws, room)
	if len(filling) < room {
		return nil, api.ErrDraws
	}
	return work(k, k.E, framed(kindEncrypted, filling, text)), api.OK
}

// Decrypt decrypts a text.
func Decrypt(k api.Key, c []byte) ([]byte, api.Errno) {
	if e := secretRight(k); e != api.OK {
		return nil, e
	}
	if !fits(k, c) {
		return nil, api.ErrPad
	}
	return unframed(kindEncrypted, work(k, k.D, c))
}

// secretRight is Right's error, and that of a key without its secret.
func secretRight(k api.Key) api.Errno {
	if nat.Bits(k.D) == 0 {
		return api.ErrKey
	}
	return Right(k)
}

// fits tells whether bytes have a key's size and are a number below N.
func fits(k api.Key, b []byte) bool {
	return len(b) == Size(k) && nat.Cmp(nat.Read(b), k.N) < 0
}

// work is a key's work on the number of some bytes, by E or by D.
func work(k api.Key, power api.Nat, b []byte) []byte {
	n, _ := modn.Pow(nat.Read(b), power, k.N)
	out, _ := nat.Write(n, Size(k))
	return out
}

// signed is what is signed of a text by a key that may sign.
func signed(k api.Key, text []byte) []byte {
	digest, _ := sha.Trunc(text, digestBytes)
	filling := bytes.Repeat([]byte{255}, Size(k)-frameBytes-digestBytes)
	return framed(kindSigned, filling, digest)
}

// framed is a text behind its kind and what fills.
func framed(kind byte, filling, text []byte) []byte {
	out := make([]byte, frameBytes+len(filling)+len(text))
	out[1] = kind
	copy(out[2:], filling)
	copy(out[frameBytes+len(filling):], text)
	return out
}

// unframed is the text that stands behind its kind and what fills; ErrPad, if none does. A key's work has two bytes at least.
func unframed(kind byte, b []byte) ([]byte, api.Errno) {
	if b[0] != 0 || b[1] != kind {
		return nil, api.ErrPad
	}
	filling, text, found := bytes.Cut(b[2:], []byte{0})
	if !found || len(filling) < leastFilling {
		return nil, api.ErrPad
	}
	return bytes.Clone(text), api.OK
}

// fillingOf is the first n bytes of draws that are not 0, or as many as there are.
func fillingOf(draws []byte, n int) []byte {
	out := make([]byte, 0, n)
	for _, b := range draws {
		if len(out) == n {
			break
		}
		if b != 0 {
			out = append(out, b)
		}
	}
	return out
}
