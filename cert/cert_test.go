package cert_test

import (
	"bytes"
	"math"
	"slices"
	"testing"

	"clepsydra/api"
	"clepsydra/cert"
	"clepsydra/nat"
	"clepsydra/pkey"
)

// P8.1: Right.

func TestRight(t *testing.T) {
	for _, c := range rights() {
		if e := cert.Right(c); e != api.OK || !isRight(c) {
			t.Errorf("Right(%v) = %v", c, e)
		}
	}
	for _, c := range wrongs() {
		if e := cert.Right(c); e != api.ErrCert || isRight(c) {
			t.Errorf("Right(%v) = %v", c, e)
		}
	}
	for b := range 256 {
		for _, s := range []string{string([]byte{byte(b)}), "a" + string([]byte{byte(b)}), string([]byte{byte(b)}) + "a"} {
			want := api.ErrCert
			if b >= 33 && b <= 126 {
				want = api.OK
			}
			for _, c := range []api.Cert{with(func(c *api.Cert) { c.Issuer = s }), with(func(c *api.Cert) { c.Subject = s })} {
				if e := cert.Right(c); e != want {
					t.Errorf("Right(%v) = %v, want %v", c, e, want)
				}
			}
		}
	}
}

// P8.2: Sign, Check, Valid, Key, Self.

// signers are keys that sign, of several sizes, made of primes.
func signers(t *testing.T) []api.Key {
	return []api.Key{keyOf(t, 1, 216), keyOf(t, 2, 218), keyOf(t, 3, 256), keyOf(t, 4, 512), keyOf(t, 5, 1024)}
}

func TestSign(t *testing.T) {
	for _, k := range signers(t) {
		for _, c := range rights()[:40] {
			body := marshalled(formOf(c).Body)
			want := c
			want.Sig, _ = pkey.Sign(k, body)
			got, e := cert.Sign(k, c)
			wantCert(t, "Sign", got, e, want)
			if e := cert.Check(pkey.Public(k), got); e != api.OK {
				t.Fatalf("Check of what was signed: %v", e)
			}
			if e := cert.Check(k, got); e != api.OK {
				t.Fatalf("Check with the whole key: %v", e)
			}
		}
	}
	// What stands as its signature plays no part, however long it is.
	k := signers(t)[2]
	for _, sig := range [][]byte{nil, {1}, make([]byte, 128), make([]byte, 129), make([]byte, 70000)} {
		c := with(func(c *api.Cert) { c.Sig = sig })
		want, _ := cert.Sign(k, small())
		got, e := cert.Sign(k, c)
		wantCert(t, "Sign", got, e, want)
	}
}

func TestSignErrors(t *testing.T) {
	k := keyOf(t, 3, 256)
	short := api.Key{N: near(208, -1), E: nat.Of(3), D: nat.Of(7)}
	for _, wrong := range wrongs() {
		if len(wrong.Sig) > 128 {
			continue
		}
		for _, k := range []api.Key{k, pkey.Public(k), {}, short} {
			got, e := cert.Sign(k, wrong)
			wantNone(t, "Sign", got, e, api.ErrCert)
		}
	}
	for _, c := range []struct {
		k    api.Key
		want api.Errno
	}{
		{api.Key{}, api.ErrKey}, {pkey.Public(k), api.ErrKey}, {api.Key{N: k.N, E: k.E, D: k.N}, api.ErrKey}, {api.Key{N: k.N, E: nat.Of(2), D: k.D}, api.ErrKey},
		{short, api.ErrPad}, {api.Key{N: nat.Of(64507), E: nat.Of(17), D: nat.Of(26353)}, api.ErrPad}, {pkey.Public(short), api.ErrKey},
	} {
		for _, plain := range rights()[:25] {
			got, e := cert.Sign(c.k, plain)
			wantNone(t, "Sign", got, e, c.want)
		}
	}
}

func TestCheck(t *testing.T) {
	k, other := keyOf(t, 3, 256), keyOf(t, 6, 256)
	c, _ := cert.Sign(k, own(other, "h0", "h1"))
	if e := cert.Check(k, c); e != api.OK {
		t.Fatalf("Check: %v", e)
	}
	for name, key := range map[string]api.Key{
		"another key": other, "no key": {}, "another E": {N: k.N, E: nat.Of(3)}, "a wrong D": {N: k.N, E: k.E, D: k.N}, "no N": {E: k.E}, "its own key": cert.Key(c),
		"too short a key": {N: nat.Of(64507), E: nat.Of(17)},
	} {
		if e := cert.Check(key, c); e != api.ErrSig {
			t.Errorf("Check with %s: %v", name, e)
		}
		for _, wrong := range wrongs() {
			if e := cert.Check(key, wrong); e != api.ErrCert {
				t.Errorf("Check of %v with %s: %v", wrong, name, e)
			}
		}
	}
	for _, wrong := range wrongs() {
		if e := cert.Check(k, wrong); e != api.ErrCert {
			t.Errorf("Check of %v: %v", wrong, e)
		}
	}
	sig := c.Sig
	for _, wrong := range [][]byte{nil, sig[1:], sig[:len(sig)-1], append(bytes.Clone(sig), 0), append([]byte{0}, sig...), make([]byte, len(sig)), make([]byte, 128)} {
		c.Sig = wrong
		if e := cert.Check(k, c); e != api.ErrSig {
			t.Errorf("Check of a signature %x: %v", wrong, e)
		}
	}
	for at := range sig {
		c.Sig = bytes.Clone(sig)
		c.Sig[at] ^= byte(1 << (at % 8))
		if e := cert.Check(k, c); e != api.ErrSig {
			t.Errorf("Check with byte %d of the signature changed: %v", at, e)
		}
	}
	c.Sig = make([]byte, 129)
	if e := cert.Check(k, c); e != api.ErrCert {
		t.Errorf("Check of too long a signature: %v", e)
	}
}

func TestValid(t *testing.T) {
	for _, c := range []struct {
		from, to, now uint32
		want          api.Errno
	}{
		{0, 9, 0, api.OK}, {0, 9, 9, api.OK}, {0, 9, 10, api.ErrDate}, {5, 9, 4, api.ErrDate}, {5, 9, 5, api.OK}, {5, 9, 7, api.OK}, {5, 9, math.MaxUint32, api.ErrDate},
		{5, 5, 5, api.OK}, {5, 5, 4, api.ErrDate}, {5, 5, 6, api.ErrDate}, {5, 9, 0, api.ErrDate}, {0, 0, 0, api.OK}, {0, 0, 1, api.ErrDate},
		{0, math.MaxUint32, math.MaxUint32, api.OK}, {math.MaxUint32, math.MaxUint32, math.MaxUint32, api.OK}, {math.MaxUint32, math.MaxUint32, math.MaxUint32 - 1, api.ErrDate},
		{1 << 31, 1<<31 + 5, 1<<31 - 1, api.ErrDate}, {1 << 31, 1<<31 + 5, 1 << 31, api.OK}, {0, 1 << 31, 1<<31 + 1, api.ErrDate}, {6, 5, 5, api.ErrCert}, {6, 5, 6, api.ErrCert}, {6, 5, 7, api.ErrCert},
	} {
		if e := cert.Valid(with(func(x *api.Cert) { x.From, x.To = c.from, c.to }), c.now); e != c.want {
			t.Errorf("Valid of %d to %d at %d: %v, want %v", c.from, c.to, c.now, e, c.want)
		}
	}
	for _, c := range wrongs() {
		for _, now := range []uint32{0, 5, 9, 10, math.MaxUint32} {
			if e := cert.Valid(c, now); e != api.ErrCert {
				t.Errorf("Valid of %v: %v", c, e)
			}
		}
	}
	// A signature that holds for nothing is not asked for.
	if e := cert.Valid(with(func(c *api.Cert) { c.Sig = []byte{1, 2, 3} }), 5); e != api.OK {
		t.Errorf("Valid: %v", e)
	}
}

func TestKey(t *testing.T) {
	for _, c := range slices.Concat(rights(), wrongs()) {
		k := cert.Key(c)
		if !slices.Equal(k.N, c.N) || !slices.Equal(k.E, c.E) || len(k.D) > 0 {
			t.Errorf("Key(%v) = %v", c, k)
		}
	}
}

func TestSelf(t *testing.T) {
	for _, c := range []struct {
		issuer, subject string
		want            bool
	}{
		{"a", "a", true}, {"a", "b", false}, {"", "", true}, {"a", "", false}, {"", "a", false}, {"a", "A", false}, {"a", "a ", false}, {"ab", "ab", true}, {"ab", "ba", false},
		{"\x00\xff", "\x00\xff", true}, {"h10", "h1", false},
	} {
		if got := cert.Self(api.Cert{Issuer: c.issuer, Subject: c.subject}); got != c.want {
			t.Errorf("Self of %q and %q = %v", c.issuer, c.subject, got)
		}
	}
	for _, c := range slices.Concat(rights(), wrongs()) {
		if got := cert.Self(c); got != (c.Issuer == c.Subject) {
			t.Errorf("Self(%v) = %v", c, got)
		}
	}
}
