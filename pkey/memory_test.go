package pkey_test

import (
	"bytes"
	"slices"
	"testing"

	"clepsydra/api"
	"clepsydra/nat"
	"clepsydra/pkey"
)

// Rules 4 and 5: what is handed in is not changed, what lies behind it plays no part; what is handed out is new memory.

func TestMemoryOfKeys(t *testing.T) {
	for _, plain := range append(strange(), handMade(1, 300), api.Key{N: api.Nat{64507, 0, 0}, E: api.Nat{17, 0}, D: api.Nat{5, 0}}) {
		k, kept := keptKey(plain)
		if pkey.Right(k) != pkey.Right(plain) || pkey.Size(k) != pkey.Size(plain) {
			t.Errorf("%x: what lies behind it was read", plain)
		}
		got := pkey.Public(k)
		fill(got.N)
		if !slices.Equal(got.E, plain.E) {
			t.Errorf("Public of %x: N and E share memory", plain)
		}
		fill(got.E)
		if !kept() {
			t.Errorf("%x was changed, or is shared", plain)
		}
	}
}

func TestMemoryOfMadeKeys(t *testing.T) {
	p, pKept := keptNat(near(127, -1))
	q, qKept := keptNat(append(near(107, -1), 0))
	plain, _ := pkey.Make(near(127, -1), near(107, -1), 65537)
	k, e := pkey.Make(p, q, 65537)
	if e != api.OK || !sameKey(k, plain) {
		t.Fatalf("Make = %x, %v", k, e)
	}
	separate(t, "Make", k)
	draws, drawsKept := keptBytes(drawn(1, 4000))
	k, _, e = pkey.Draw(draws, 128, 17)
	if e != api.OK {
		t.Fatalf("Draw: %v", e)
	}
	separate(t, "Draw", k)
	for _, n := range []int{0, 1, 7, 15} {
		short, shortKept := keptBytes(make([]byte, n))
		if _, _, e := pkey.Draw(short, 16, 5); e != api.ErrDraws || !shortKept() {
			t.Errorf("Draw of %d noughts: %v", n, e)
		}
	}
	if !pKept() || !qKept() || !drawsKept() {
		t.Error("an argument was changed, or is shared")
	}
}

// separate fails, if two numbers of a key share memory; it spoils the key.
func separate(t *testing.T, what string, k api.Key) {
	t.Helper()
	e, d := slices.Clone(k.E), slices.Clone(k.D)
	fill(k.N)
	if !slices.Equal(k.E, e) || !slices.Equal(k.D, d) {
		t.Errorf("%s: N shares memory", what)
	}
	fill(k.E)
	if !slices.Equal(k.D, d) {
		t.Errorf("%s: E shares memory", what)
	}
	fill(k.D)
}

func TestMemoryOfWorks(t *testing.T) {
	right := keyOf(t, 31, 252)
	sig, _ := pkey.Sign(right, []byte("time"))
	sealed, _ := pkey.Encrypt(right, []byte("time"), noughtless(1, 60))
	for _, plain := range append(strange(), right, pkey.Public(right), handMade(3, 100)) {
		k, kept := keptKey(plain)
		text, textKept := keptBytes([]byte("time"))
		for name, do := range map[string]func(k api.Key, text, other []byte) ([]byte, api.Errno){
			"Sign":    func(k api.Key, text, _ []byte) ([]byte, api.Errno) { return pkey.Sign(k, text) },
			"Verify":  func(k api.Key, text, other []byte) ([]byte, api.Errno) { return told(pkey.Verify(k, text, other)), 0 },
			"Encrypt": pkey.Encrypt,
			"Decrypt": func(k api.Key, _, other []byte) ([]byte, api.Errno) { return pkey.Decrypt(k, other) },
		} {
			for _, other := range [][]byte{sig, sealed, noughtless(1, 25), noughtless(1, 24), nil, drawn(1, 60)} {
				b, bKept := keptBytes(other)
				got, e := do(k, text, b)
				want, code := do(plain, []byte("time"), bytes.Clone(other))
				if e != code || !bytes.Equal(got, want) {
					t.Errorf("%s with %x hangs on what lies behind", name, plain)
				}
				fill(got)
				if !kept() || !textKept() || !bKept() {
					t.Fatalf("%s with %x: an argument was changed, or is shared", name, plain)
				}
			}
		}
	}
}

// told is a bool as bytes.
func told(b bool) []byte {
	if b {
		return []byte{1}
	}
	return nil
}

// Rule 8: the same is answered again.
func TestAgain(t *testing.T) {
	k := keyOf(t, 33, 252)
	draws := drawn(5, 5000)
	first, used, _ := pkey.Draw(draws, 96, 3)
	sig, _ := pkey.Sign(k, draws)
	c, _ := pkey.Encrypt(k, draws[:9], draws)
	for range 3 {
		if again, n, _ := pkey.Draw(draws, 96, 3); !sameKey(first, again) || n != used {
			t.Error("Draw answers something else")
		}
		if again, _ := pkey.Sign(k, draws); !bytes.Equal(sig, again) {
			t.Error("Sign answers something else")
		}
		if again, _ := pkey.Encrypt(k, draws[:9], draws); !bytes.Equal(c, again) {
			t.Error("Encrypt answers something else")
		}
	}
}

// P1: no call panics, and each ends, at numbers of any size.
func TestAnySize(t *testing.T) {
	long := slices.Repeat(api.Nat{ones}, 20000)
	for _, n := range []api.Nat{nil, {0}, nat.Of(2), nat.Of(65537), near(1024, -1), long, append(make(api.Nat, 20000), 1)} {
		for _, e := range []api.Nat{nil, nat.Of(3), long} {
			for _, d := range []api.Nat{nil, nat.Of(7), long} {
				k := api.Key{N: n, E: e, D: d}
				right := pkey.Right(k)
				_, signed := pkey.Sign(k, nil)
				_, encrypted := pkey.Encrypt(k, nil, nil)
				_, decrypted := pkey.Decrypt(k, make([]byte, pkey.Size(k)))
				if right != api.OK && (signed != right || encrypted != right || decrypted != right || pkey.Verify(k, nil, make([]byte, pkey.Size(k)))) {
					t.Errorf("a wrong key: %v, %v, %v", signed, encrypted, decrypted)
				}
			}
		}
		if _, e := pkey.Make(n, long, 3); e != api.ErrKey {
			t.Errorf("Make: %v", e)
		}
	}
}
