package cert_test

import (
	"bytes"
	"math/rand"
	"slices"
	"testing"

	"clepsydra/api"
	"clepsydra/cert"
	"clepsydra/nat"
	"clepsydra/pkey"
)

// P8.4: what was signed with a key of two primes is checked with it; not, when a field of the body is another one.
func TestSignedAndChanged(t *testing.T) {
	changes := map[string]func(c *api.Cert){
		"Serial": func(c *api.Cert) { c.Serial++ }, "Issuer": func(c *api.Cert) { c.Issuer = "h9" }, "Subject": func(c *api.Cert) { c.Subject += "x" },
		"both names": func(c *api.Cert) { c.Issuer, c.Subject = c.Subject, c.Issuer }, "From": func(c *api.Cert) { c.From-- }, "To": func(c *api.Cert) { c.To++ },
		"N": func(c *api.Cert) { c.N = nat.Add(c.N, nat.Of(2)) }, "E": func(c *api.Cert) { c.E = nat.Of(3) }, "Usage": func(c *api.Cert) { c.Usage ^= 2 },
	}
	for i, k := range signers(t) {
		c, e := cert.Sign(k, own(signers(t)[(i+1)%5], "h0", "h1"))
		if e != api.OK || cert.Check(k, c) != api.OK {
			t.Fatalf("what was signed is not checked: %v", e)
		}
		for name, change := range changes {
			other := c
			change(&other)
			if e := cert.Check(k, other); e != api.ErrSig {
				t.Errorf("with another %s: %v", name, e)
			}
		}
		loose := c
		loose.N, loose.E = append(slices.Clone(c.N), 0, 0), append(slices.Clone(c.E), 0)
		if e := cert.Check(k, loose); e != api.OK {
			t.Errorf("with noughts at the end of its numbers: %v", e)
		}
		b, _ := cert.Write(c)
		got, e := cert.Read(b)
		wantCert(t, "Read", got, e, c)
		if e := cert.Check(k, got); e != api.OK {
			t.Errorf("as it is read: %v", e)
		}
	}
}

// A certificate that its own holder signed is checked by its own key.
func TestSignedByItsHolder(t *testing.T) {
	for _, k := range signers(t) {
		c, e := cert.Sign(k, own(k, "h0", "h0"))
		if e != api.OK || !cert.Self(c) || cert.Check(cert.Key(c), c) != api.OK || cert.Valid(c, 150) != api.OK {
			t.Errorf("%v, %v", c, e)
		}
	}
}

// P8.5: a certificate's body does not hang on its Sig.
func TestBodyWithoutSig(t *testing.T) {
	for _, c := range rights() {
		want, _ := cert.Body(c)
		for _, sig := range [][]byte{nil, {}, {1}, {5, 6, 7}, make([]byte, 128)} {
			c.Sig = sig
			if b, e := cert.Body(c); e != api.OK || !bytes.Equal(b, want) {
				t.Fatalf("with %x: %x, %v, want %x", sig, b, e, want)
			}
		}
	}
}

// Rules 4 and 5: what is handed in is not changed, what lies behind it plays no part; what is handed out is new memory.
func TestMemory(t *testing.T) {
	for _, plain := range slices.Concat(rights(), wrongs()) {
		c, cKept := keptCert(plain)
		for name, do := range map[string]func(c api.Cert) ([]byte, api.Errno){
			"Body": cert.Body, "Write": cert.Write,
			"Right": func(c api.Cert) ([]byte, api.Errno) { return nil, cert.Right(c) },
			"Valid": func(c api.Cert) ([]byte, api.Errno) { return nil, cert.Valid(c, 5) },
		} {
			b, e := do(c)
			want, code := do(plain)
			if e != code || !bytes.Equal(b, want) {
				t.Fatalf("%s hangs on what lies behind a certificate", name)
			}
			fill(b)
			if !cKept() {
				t.Fatalf("%s changed a certificate, or shares its memory", name)
			}
		}
		k, again := cert.Key(c), cert.Key(c)
		if !slices.Equal(k.N, plain.N) || !slices.Equal(k.E, plain.E) {
			t.Fatal("Key hangs on what lies behind a certificate")
		}
		fill(k.N)
		if !slices.Equal(k.E, again.E) {
			t.Fatal("N and E share memory")
		}
		fill(k.E)
		if !cKept() || !slices.Equal(again.N, plain.N) || !slices.Equal(again.E, plain.E) {
			t.Fatal("Key shares memory")
		}
	}
}

func TestMemoryOfSigning(t *testing.T) {
	for _, plainKey := range []api.Key{keyOf(t, 3, 256), keyOf(t, 4, 512)} {
		for _, plain := range rights()[:30] {
			k, kKept := keptKey(plainKey)
			c, cKept := keptCert(plain)
			want, code := cert.Sign(plainKey, plain)
			got, e := cert.Sign(k, c)
			if e != code || !same(got, want) {
				t.Fatalf("Sign hangs on what lies behind its arguments: %v", e)
			}
			signed, signedKept := keptCert(got)
			if e := cert.Check(k, signed); e != api.OK || !signedKept() {
				t.Fatalf("Check hangs on what lies behind its arguments, or changed them: %v", e)
			}
			wantApart(t, got, want)
			if !kKept() || !cKept() {
				t.Fatal("Sign changed its arguments, or shares them")
			}
		}
	}
}

// wantApart fails, if lists of a certificate share memory.
func wantApart(t *testing.T, got, want api.Cert) {
	t.Helper()
	fill(got.N)
	if !slices.Equal(got.E, want.E) || !bytes.Equal(got.Sig, want.Sig) {
		t.Fatal("N shares memory")
	}
	fill(got.E)
	if !bytes.Equal(got.Sig, want.Sig) {
		t.Fatal("E shares memory")
	}
	fill(got.Sig)
}

func TestMemoryOfRead(t *testing.T) {
	for _, c := range rights() {
		plain, _ := cert.Write(c)
		b, bKept := kept(plain)
		got, e := cert.Read(b)
		wantCert(t, "Read", got, e, trimmed(c))
		wantApart(t, got, trimmed(c))
		if !bKept() {
			t.Fatal("Read changed its bytes, or shares them")
		}
	}
}

// P1: no call panics, and each ends, at arguments of any size.
func TestAnySize(t *testing.T) {
	huge := slices.Repeat(api.Nat{ones, 7}, 100000)
	name := string(bytes.Repeat([]byte("a"), 1<<20))
	k := keyOf(t, 3, 256)
	for _, c := range []api.Cert{
		with(func(c *api.Cert) { c.N = huge }), with(func(c *api.Cert) { c.E = huge }), with(func(c *api.Cert) { c.N, c.E = huge, huge }),
		with(func(c *api.Cert) { c.Issuer = name }), with(func(c *api.Cert) { c.Subject = name }), {Issuer: name, Subject: name, N: huge, E: huge, Sig: []byte(name)},
	} {
		got, e := cert.Sign(k, c)
		wantNone(t, "Sign", got, e, api.ErrCert)
		if cert.Right(c) != api.ErrCert || cert.Check(k, c) != api.ErrCert || cert.Valid(c, 5) != api.ErrCert {
			t.Error("a huge certificate is right")
		}
		if k := cert.Key(c); len(k.N) != len(c.N) || len(k.E) != len(c.E) {
			t.Error("a huge certificate's key is another one")
		}
	}
	got, e := cert.Sign(api.Key{N: huge, E: huge, D: huge}, small())
	wantNone(t, "Sign", got, e, api.ErrKey)
	if e := cert.Check(api.Key{N: huge, E: huge, D: huge}, small()); e != api.ErrSig {
		t.Errorf("Check: %v", e)
	}
	// Many noughts at a number's end mean nothing.
	loose := with(func(c *api.Cert) { c.N = append(api.Nat{64507}, make(api.Nat, 1<<20)...) })
	want, _ := cert.Body(small())
	if b, e := cert.Body(loose); e != api.OK || !bytes.Equal(b, want) {
		t.Errorf("Body of a number with many noughts: %x, %v", b, e)
	}
	signed, e := cert.Sign(k, loose)
	if e != api.OK || !slices.Equal(signed.N, loose.N) || cert.Check(pkey.Public(k), signed) != api.OK {
		t.Errorf("Sign of a number with many noughts: %v", e)
	}
	r := rand.New(rand.NewSource(83))
	for range 2000 {
		b := make([]byte, r.Intn(300))
		r.Read(b)
		got, e := cert.Read(b)
		if e == api.OK {
			t.Errorf("%x is a certificate", b)
		}
		wantNone(t, "Read", got, e, e)
	}
}
