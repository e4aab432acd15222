package pkey_test

import (
	"bytes"
	"math/big"
	"slices"
	"testing"

	"clepsydra/api"
	"clepsydra/nat"
	"clepsydra/pkey"
)

// P5.5: Encrypt, Decrypt.

// noughtless are draws without a byte 0.
func noughtless(seed int64, n int) []byte {
	b := drawn(seed, n)
	for i := range b {
		b[i] |= 1
	}
	return b
}

func TestEncrypt(t *testing.T) {
	for i, digits := range []int{88, 89, 90, 96, 97, 200, 512, 1017, 1024} {
		k := handMade(int64(i), digits)
		size := pkey.Size(k)
		for length := 0; length <= size-11; length += 1 + length/3 {
			text, filling := drawn(int64(length), length), noughtless(9, size-3-length)
			want := raised(k, k.E, slices.Concat([]byte{0, 2}, filling, []byte{0}, text))
			for _, draws := range [][]byte{
				filling, append(bytes.Clone(filling), 0, 0, 9, 8), append([]byte{0, 0, 0}, filling...), bytes.Join(bytes.SplitAfter(filling, nil), []byte{0}),
			} {
				c, e := pkey.Encrypt(k, text, draws)
				wantBytes(t, "Encrypt", c, e, want, api.OK)
				c, e = pkey.Encrypt(pkey.Public(k), text, draws)
				wantBytes(t, "Encrypt with a public key", c, e, want, api.OK)
			}
			for _, draws := range [][]byte{nil, filling[1:], append(bytes.Clone(filling[1:]), 0, 0, 0, 0), make([]byte, 999)} {
				c, e := pkey.Encrypt(k, text, draws)
				wantBytes(t, "Encrypt with too few draws", c, e, nil, api.ErrDraws)
			}
		}
	}
}

func TestEncryptErrors(t *testing.T) {
	draws := noughtless(1, 300)
	k := handMade(1, 250)
	for _, c := range []struct {
		k      api.Key
		length int
		draws  []byte
		want   api.Errno
	}{
		{k, 21, draws, api.OK}, {k, 22, draws, api.ErrPad}, {k, 32, draws, api.ErrPad}, {k, 33, draws, api.ErrPad}, {k, 5000, draws, api.ErrPad},
		{handMade(1, 88), 0, draws, api.OK}, {handMade(1, 88), 1, draws, api.ErrPad}, {handMade(1, 81), 0, draws, api.OK},
		{handMade(1, 80), 0, draws, api.ErrPad}, {handMade(1, 16), 0, draws, api.ErrPad}, {handMade(1, 16), 1, draws, api.ErrPad},
		{handMade(1, 1024), 117, draws, api.OK}, {handMade(1, 1024), 118, draws, api.ErrPad},
		// Two errors: the first one is told.
		{k, 22, nil, api.ErrPad}, {handMade(1, 80), 0, nil, api.ErrPad}, {k, 21, nil, api.ErrDraws},
		{api.Key{N: k.N, E: api.Nat{2}}, 22, nil, api.ErrKey}, {api.Key{N: k.N, E: k.E, D: k.N}, 22, draws, api.ErrKey}, {api.Key{}, 0, draws, api.ErrKey},
	} {
		got, e := pkey.Encrypt(c.k, make([]byte, c.length), c.draws)
		if e != c.want || (c.want == api.OK) != (len(got) > 0) {
			t.Errorf("Encrypt %d bytes with %x = %x, %v, want %v", c.length, c.k.N, got, e, c.want)
		}
	}
	for _, k := range strange() {
		got, e := pkey.Encrypt(k, nil, draws)
		wantBytes(t, "Encrypt", got, e, nil, api.ErrKey)
	}
}

func TestDecrypt(t *testing.T) {
	k := keyOf(t, 11, 252)
	size := pkey.Size(k)
	filled := noughtless(2, 100)
	for _, c := range []struct {
		name  string
		block []byte
		text  []byte
		want  api.Errno
	}{
		{"a text", slices.Concat([]byte{0, 2}, filled[:size-7], []byte{0}, []byte("time")), []byte("time"), api.OK},
		{"no text", slices.Concat([]byte{0, 2}, filled[:size-3], []byte{0}), nil, api.OK},
		{"a text of noughts", slices.Concat([]byte{0, 2}, filled[:size-7], make([]byte, 5)), make([]byte, 4), api.OK},
		{"noughts in a text", slices.Concat([]byte{0, 2}, filled[:size-6], []byte{0, 5, 0, 6}), []byte{5, 0, 6}, api.OK},
		{"eight filling bytes", slices.Concat([]byte{0, 2}, filled[:8], []byte{0}, filled[:size-11]), filled[:size-11], api.OK},
		{"eight ones", slices.Concat([]byte{0, 2}, bytes.Repeat([]byte{1}, 8), make([]byte, size-10)), make([]byte, size-11), api.OK},
		{"seven filling bytes", slices.Concat([]byte{0, 2}, filled[:7], []byte{0}, filled[:size-10]), nil, api.ErrPad},
		{"seven, and a nought among the text", slices.Concat([]byte{0, 2}, filled[:7], []byte{0}, filled[:size-14], []byte{0, 1, 2, 3}), nil, api.ErrPad},
		{"no filling byte", slices.Concat([]byte{0, 2, 0}, filled[:size-3]), nil, api.ErrPad},
		{"no nought", slices.Concat([]byte{0, 2}, filled[:size-2]), nil, api.ErrPad},
		{"what is signed", block([]byte("time"), size), nil, api.ErrPad},
		{"a kind of 3", slices.Concat([]byte{0, 3}, filled[:size-7], []byte{0}, []byte("time")), nil, api.ErrPad},
		{"a kind of 0", slices.Concat([]byte{0, 0}, filled[:size-7], []byte{0}, []byte("time")), nil, api.ErrPad},
		{"a first byte of 1", slices.Concat([]byte{1, 2}, filled[:size-7], []byte{0}, []byte("time")), nil, api.ErrPad},
		{"noughts", make([]byte, size), nil, api.ErrPad},
		{"one", append(make([]byte, size-1), 1), nil, api.ErrPad},
	} {
		got, e := pkey.Decrypt(k, raised(k, k.E, c.block))
		wantBytes(t, c.name, got, e, c.text, c.want)
		got, e = pkey.Decrypt(api.Key{N: append(k.N, 0), E: append(k.E, 0), D: append(k.D, 0)}, raised(k, k.E, c.block))
		wantBytes(t, c.name+", with noughts at the key's end", got, e, c.text, c.want)
	}
}

func TestDecryptErrors(t *testing.T) {
	k := keyOf(t, 12, 250)
	c, _ := pkey.Encrypt(k, []byte("time"), noughtless(3, 40))
	above := new(big.Int).Add(bigOf(k.N), new(big.Int).SetBytes(c)).FillBytes(make([]byte, len(c)))
	for name, wrong := range map[string][]byte{
		"nothing": nil, "a byte less": c[:len(c)-1], "without its first": c[1:], "a byte more": append(bytes.Clone(c), 0),
		"a byte 0 ahead": append([]byte{0}, c...), "N": bigOf(k.N).Bytes(), "N more": above, "the greatest": bytes.Repeat([]byte{255}, len(c)), "much": drawn(3, 5000),
	} {
		got, e := pkey.Decrypt(k, wrong)
		wantBytes(t, name, got, e, nil, api.ErrPad)
	}
	got, e := pkey.Decrypt(k, c)
	wantBytes(t, "Decrypt", got, e, []byte("time"), api.OK)
	for _, wrong := range append(strange(),
		pkey.Public(k), api.Key{N: k.N, E: k.E, D: api.Nat{0, 0}}, api.Key{N: k.N, E: api.Nat{2}, D: k.D}, api.Key{N: k.N, D: k.D},
		api.Key{N: k.N, E: k.E, D: k.N}, pkey.Public(handMade(1, 16)),
	) {
		for _, b := range [][]byte{c, nil, above} {
			got, e := pkey.Decrypt(wrong, b)
			wantBytes(t, "Decrypt with a wrong key", got, e, nil, api.ErrKey)
		}
	}
}

// A key that is too small for any text is right, and decrypts nothing.
func TestDecryptWithSmallKeys(t *testing.T) {
	for digits := 16; digits <= 80; digits++ {
		k := handMade(int64(digits), digits)
		for n := range uint64(300) {
			c, e := nat.Write(nat.Of(n), pkey.Size(k))
			if e != api.OK {
				t.Fatalf("Write: %v", e)
			}
			got, e := pkey.Decrypt(k, c)
			wantBytes(t, "Decrypt", got, e, nil, api.ErrPad)
		}
	}
	k := api.Key{N: nat.Of(65535), E: nat.Of(3), D: nat.Of(1)}
	for n := range uint64(65536) {
		got, e := pkey.Decrypt(k, []byte{byte(n >> 8), byte(n)})
		wantBytes(t, "Decrypt", got, e, nil, api.ErrPad)
	}
}

// P5.6: what is encrypted with a key of two primes is decrypted by it, as it was.
func TestEncryptedAndDecrypted(t *testing.T) {
	for _, k := range append([]api.Key{keyOf(t, 21, 88), keyOf(t, 22, 89), keyOf(t, 23, 1024)}, signers(t)[5:]...) {
		size := pkey.Size(k)
		for length := 0; length <= size-11; length++ {
			text := drawn(int64(length), length)
			c, e := pkey.Encrypt(pkey.Public(k), text, drawn(int64(size), 3*size))
			if e != api.OK || len(c) != size {
				t.Fatalf("Encrypt: %x, %v", c, e)
			}
			got, e := pkey.Decrypt(k, c)
			wantBytes(t, "Decrypt", got, e, text, api.OK)
		}
	}
}

// P2: the two works of a key of two primes undo each other, of keys that are drawn, too.
func TestWorksUndoEachOther(t *testing.T) {
	for seed := range int64(8) {
		k, _, e := pkey.Draw(drawn(seed, 20000), 256, 65537)
		if e != api.OK {
			t.Fatalf("Draw: %v", e)
		}
		for _, text := range texts() {
			sig, e := pkey.Sign(k, text)
			if e != api.OK || !pkey.Verify(pkey.Public(k), text, sig) {
				t.Fatalf("Sign: %v", e)
			}
			if !bytes.Equal(raised(k, k.E, sig), block(text, 32)) {
				t.Fatalf("%x does not undo %x", k, sig)
			}
			c, e := pkey.Encrypt(pkey.Public(k), text[:min(len(text), 21)], drawn(seed+9, 99))
			if e != api.OK {
				t.Fatalf("Encrypt: %v", e)
			}
			got, e := pkey.Decrypt(k, c)
			wantBytes(t, "Decrypt", got, e, text[:min(len(text), 21)], api.OK)
		}
	}
}
