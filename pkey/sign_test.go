package pkey_test

import (
	"bytes"
	"crypto/sha256"
	"math/big"
	"slices"
	"testing"

	"clepsydra/api"
	"clepsydra/nat"
	"clepsydra/pkey"
)

// P5.4: Sign, Verify.

// texts are texts of some lengths.
func texts() [][]byte {
	return [][]byte{nil, {0}, []byte("time"), []byte("tide"), drawn(1, 55), drawn(2, 56), drawn(3, 64), drawn(4, 1000)}
}

// block is what is signed of a text, word by word.
func block(text []byte, size int) []byte {
	digest := sha256.Sum256(text)
	return slices.Concat([]byte{0, 1}, bytes.Repeat([]byte{255}, size-19), []byte{0}, digest[:16])
}

// signers are keys that sign, whether they are made of primes or not; of each size from 27 to 40, and of the greatest.
func signers(t *testing.T) []api.Key {
	l := []api.Key{handMade(1, 209), handMade(2, 216), handMade(3, 217), handMade(4, 1023), handMade(5, 1024)}
	for size := 27; size <= 40; size++ {
		l = append(l, keyOf(t, int64(size), 8*size-2))
	}
	return append(l, keyOf(t, 9, 1024), keyOf(t, 10, 512))
}

func TestSign(t *testing.T) {
	for _, k := range signers(t) {
		for _, text := range texts() {
			sig, e := pkey.Sign(k, text)
			wantBytes(t, "Sign", sig, e, raised(k, k.D, block(text, pkey.Size(k))), api.OK)
		}
		loose := api.Key{N: append(k.N, 0, 0), E: append(k.E, 0), D: append(k.D, 0, 0, 0)}
		sig, e := pkey.Sign(loose, []byte("time"))
		wantBytes(t, "Sign with noughts at the end", sig, e, raised(k, k.D, block([]byte("time"), pkey.Size(k))), api.OK)
	}
}

func TestSignErrors(t *testing.T) {
	right := keyOf(t, 5, 300)
	for _, c := range []struct {
		k    api.Key
		want api.Errno
	}{
		{pkey.Public(right), api.ErrKey}, {api.Key{N: right.N, E: right.E, D: api.Nat{0, 0}}, api.ErrKey},
		{api.Key{N: right.N, E: right.E, D: right.N}, api.ErrKey}, {api.Key{N: right.N, E: api.Nat{4}, D: right.D}, api.ErrKey},
		{handMade(1, 208), api.ErrPad}, {handMade(2, 16), api.ErrPad}, {handMade(3, 201), api.ErrPad}, {handMade(3, 64), api.ErrPad},
		{handMade(4, 209), api.OK},
		// Two errors: the first one is told.
		{pkey.Public(handMade(1, 208)), api.ErrKey}, {handMade(1, 15), api.ErrKey},
	} {
		for _, text := range texts() {
			sig, e := pkey.Sign(c.k, text)
			if e != c.want || c.want != api.OK && len(sig) > 0 {
				t.Errorf("Sign with %x = %x, %v, want %v", c.k, sig, e, c.want)
			}
		}
	}
	k, _ := pkey.Make(nat.Of(251), nat.Of(257), 17)
	if sig, e := pkey.Sign(k, nil); e != api.ErrPad || len(sig) > 0 {
		t.Errorf("Sign with 64507 = %x, %v", sig, e)
	}
	for _, k := range strange() {
		if sig, e := pkey.Sign(k, []byte("time")); e != api.ErrKey || len(sig) > 0 {
			t.Errorf("Sign with %x = %x, %v", k, sig, e)
		}
	}
}

// P5.7: what is signed with a key of two primes is verified, and a signature holds for no text of another digest.
func TestVerify(t *testing.T) {
	for _, k := range signers(t)[5:] {
		for i, text := range texts() {
			sig, e := pkey.Sign(k, text)
			if e != api.OK || !pkey.Verify(k, text, sig) || !pkey.Verify(pkey.Public(k), text, sig) {
				t.Fatalf("what %x signed is not verified", k)
			}
			for j, other := range texts() {
				if pkey.Verify(k, other, sig) != (i == j) {
					t.Errorf("a signature of %x for %x: %v", text, other, i != j)
				}
			}
			for at := range sig {
				wrong := bytes.Clone(sig)
				wrong[at] ^= byte(1 << (at % 8))
				if pkey.Verify(k, text, wrong) {
					t.Errorf("%x is verified with byte %d changed", text, at)
				}
			}
		}
	}
}

func TestVerifyNot(t *testing.T) {
	k, text := keyOf(t, 6, 250), []byte("time")
	sig, _ := pkey.Sign(k, text)
	n := bigOf(k.N)
	above := new(big.Int).Add(new(big.Int).SetBytes(sig), n).FillBytes(make([]byte, len(sig)))
	for name, wrong := range map[string][]byte{
		"nothing": nil, "a byte less": sig[:len(sig)-1], "without its first": sig[1:], "a byte more": append(bytes.Clone(sig), 0),
		"a byte 0 ahead": append([]byte{0}, sig...), "N": n.Bytes(), "N more": above, "noughts": make([]byte, len(sig)),
		"the block": block(text, len(sig)), "one": append(make([]byte, len(sig)-1), 1), "much": drawn(3, 5000),
	} {
		if pkey.Verify(k, text, wrong) {
			t.Errorf("%s is verified", name)
		}
	}
	other := keyOf(t, 7, 250)
	for _, wrong := range []api.Key{
		other, {N: k.N, E: api.Nat{3}}, {N: other.N, E: k.E}, {N: k.N, E: k.E, D: k.N}, {N: k.N, E: api.Nat{65538}}, {E: k.E, D: k.D}, {N: k.N},
	} {
		if pkey.Verify(wrong, text, sig) {
			t.Errorf("%x verifies", wrong)
		}
	}
	if !pkey.Verify(api.Key{N: append(k.N, 0), E: append(k.E, 0, 0), D: api.Nat{0}}, text, sig) {
		t.Error("noughts at the end of a key count")
	}
	for _, k := range strange() {
		if pkey.Verify(k, text, sig) || pkey.Verify(k, text, make([]byte, min(pkey.Size(k), 9999))) {
			t.Errorf("%x verifies", k)
		}
	}
}

// A signature is undone into just what is signed: nothing like it does.
func TestVerifyEachByte(t *testing.T) {
	k, text := keyOf(t, 8, 261), []byte("time")
	size := pkey.Size(k)
	right := block(text, size)
	if !pkey.Verify(k, text, raised(k, k.D, right)) {
		t.Fatal("the block is not verified")
	}
	for at := range right {
		wrong := bytes.Clone(right)
		wrong[at] ^= 1
		if pkey.Verify(k, text, raised(k, k.D, wrong)) {
			t.Errorf("byte %d does not count", at)
		}
	}
	digest := sha256.Sum256(text)
	short := slices.Concat([]byte{0, 1}, bytes.Repeat([]byte{255}, size-20), []byte{0}, digest[:16], []byte{7})
	whole := append([]byte{0}, digest[:]...)
	encrypted := bytes.Clone(right)
	encrypted[1] = 2
	for _, wrong := range [][]byte{short, whole[:size], encrypted} {
		if pkey.Verify(k, text, raised(k, k.D, wrong)) {
			t.Errorf("%x is verified", wrong)
		}
	}
}

// No key whose size is below 27 verifies, whatever is told.
func TestVerifyWithShortKeys(t *testing.T) {
	for digits := 16; digits <= 208; digits++ {
		k := handMade(int64(digits), digits)
		size := pkey.Size(k)
		for _, sig := range [][]byte{nil, make([]byte, size), append(make([]byte, size-1), 1), make([]byte, 27)} {
			if pkey.Verify(k, []byte("time"), sig) {
				t.Errorf("%x verifies", k)
			}
		}
	}
}
