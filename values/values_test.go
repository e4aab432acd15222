package values_test

import (
	"bytes"
	"math/rand"
	"slices"
	"testing"

	"clepsydra/api"
	"clepsydra/nat"
	"clepsydra/pkey"
	"clepsydra/values"
)

// P12.1: Signed, Sign, Check, Newer.

func TestSigned(t *testing.T) {
	v := api.Value{TS: 0x01020304, FS: 0xfffefdfc, Data: []byte{7, 8, 9}, Sig: []byte{1, 2}}
	if got, want := values.Signed(v), []byte{1, 2, 3, 4, 255, 254, 253, 252, 0, 0, 0, 3, 7, 8, 9}; !bytes.Equal(got, want) {
		t.Errorf("Signed(%v) = %v, want %v", v, got, want)
	}
	if got := values.Signed(api.Value{}); !bytes.Equal(got, make([]byte, 12)) {
		t.Errorf("Signed of nothing = %v", got)
	}
	for _, ts := range edges() {
		for _, fs := range edges() {
			v := api.Value{TS: ts, FS: fs, Data: []byte{1}}
			if got, want := values.Signed(v), signedOf(v); !bytes.Equal(got, want) {
				t.Fatalf("Signed(%v) = %v, want %v", v, got, want)
			}
		}
	}
	// Of more Data than may be signed, too.
	for _, n := range append(sizes(), 2049, 65535, 65536, 1<<24+5) {
		v := api.Value{TS: 5, FS: 6, Data: drawn(int64(n), n)}
		if !bytes.Equal(values.Signed(v), signedOf(v)) {
			t.Fatalf("Signed of %d bytes is something else", n)
		}
	}
}

func TestSign(t *testing.T) {
	r := rand.New(rand.NewSource(121))
	for _, digits := range []int{216, 218, 254, 512} {
		k := keyOf(t, int64(digits), digits)
		for _, n := range sizes() {
			v := anyValue(r)
			v.Data = drawn(int64(n), n)
			want := v
			want.Sig, _ = pkey.Sign(k, signedOf(v))
			got, e := values.Sign(k, v)
			if e != api.OK || len(want.Sig) == 0 || !same(got, want) {
				t.Fatalf("Sign(%v) with a key of %d digits = %v, %v, want %v", v, digits, got, e, want)
			}
			if e := values.Check(k, got); e != api.OK {
				t.Fatalf("Check: %v", e)
			}
			if e := values.Check(pkey.Public(k), got); e != api.OK {
				t.Fatalf("Check with the public key: %v", e)
			}
		}
	}
}

// What Sig is ahead of it plays no part, however long it is.
func TestSignAgain(t *testing.T) {
	k := keyOf(t, 1, 216)
	want, _ := values.Sign(k, api.Value{TS: 1, FS: 2, Data: []byte("data")})
	for _, n := range []int{0, 1, 27, 128, 129, 5000} {
		got, e := values.Sign(k, api.Value{TS: 1, FS: 2, Data: []byte("data"), Sig: make([]byte, n)})
		if e != api.OK || !same(got, want) {
			t.Errorf("Sign with a Sig of %d bytes = %v, %v, want %v", n, got, e, want)
		}
	}
	if got, e := values.Sign(k, want); e != api.OK || !same(got, want) {
		t.Errorf("Sign again = %v, %v, want %v", got, e, want)
	}
}

func TestSignWrong(t *testing.T) {
	wrongs := wrongKeys(t)
	wrongs[api.ErrKey] = append(wrongs[api.ErrKey], pkey.Public(keyOf(t, 1, 216)))
	for code, l := range wrongs {
		for i, k := range l {
			for _, n := range sizes() {
				if got, e := values.Sign(k, api.Value{TS: 1, FS: 2, Data: make([]byte, n), Sig: []byte{1}}); e != code || !isZero(got) {
					t.Errorf("Sign of %d bytes with wrong key %d = %v, %v, want %v", n, i, got, e, code)
				}
			}
			// What is too long is told ahead of the key.
			for _, n := range []int{2049, 2050, 4096, 1 << 20} {
				if got, e := values.Sign(k, api.Value{TS: 1, Data: make([]byte, n)}); e != api.ErrLong || !isZero(got) {
					t.Errorf("Sign of %d bytes with wrong key %d = %v, %v", n, i, got, e)
				}
			}
		}
	}
	if got, e := values.Sign(keyOf(t, 1, 216), api.Value{Data: make([]byte, 2049)}); e != api.ErrLong || !isZero(got) {
		t.Errorf("Sign of 2049 bytes = %v, %v", got, e)
	}
}

// A key whose D undoes nothing signs, too, but what it signs is not checked.
func TestSignWithStrangeKeys(t *testing.T) {
	k := keyOf(t, 1, 216)
	k.D = nat.Of(5)
	v, e := values.Sign(k, api.Value{TS: 1})
	sig, f := pkey.Sign(k, signedOf(api.Value{TS: 1}))
	if e != f || e != api.OK || !bytes.Equal(v.Sig, sig) {
		t.Errorf("Sign = %v, %v, want %v, %v", v, e, sig, f)
	}
	if e := values.Check(k, v); e != api.ErrSig {
		t.Errorf("Check: %v", e)
	}
}

func TestCheckWrong(t *testing.T) {
	k, other := keyOf(t, 1, 216), keyOf(t, 2, 216)
	for _, n := range sizes() {
		right, e := values.Sign(k, api.Value{TS: 0x01020304, FS: 0x05060708, Data: drawn(1, n)})
		if e != api.OK || values.Check(k, right) != api.OK {
			t.Fatalf("Sign: %v", e)
		}
		if e := values.Check(other, right); e != api.ErrSig {
			t.Errorf("Check with another key: %v", e)
		}
		for i, change := range changes() {
			v := right
			v.Data, v.Sig = slices.Clone(v.Data), slices.Clone(v.Sig)
			change(&v)
			want := api.ErrSig
			if len(v.Data) > 2048 {
				want = api.ErrLong
			}
			if e := values.Check(k, v); e != want {
				t.Errorf("%d bytes, change %d: %v, want %v", n, i, e, want)
			}
		}
		for _, l := range wrongKeys(t) {
			for i, wrong := range l {
				if e := values.Check(wrong, right); e != api.ErrSig {
					t.Errorf("Check with wrong key %d: %v", i, e)
				}
			}
		}
	}
}

// changes are what makes a value that is signed one that is not. Those of Data make it longer.
func changes() []func(v *api.Value) {
	l := []func(v *api.Value){
		func(v *api.Value) { v.TS, v.FS = v.FS, v.TS }, func(v *api.Value) { v.Data = append(v.Data, 0) },
		func(v *api.Value) { v.Data = append([]byte{0}, v.Data...) },
		func(v *api.Value) { v.Sig = nil }, func(v *api.Value) { v.Sig = v.Sig[1:] }, func(v *api.Value) { v.Sig = v.Sig[:26] },
		func(v *api.Value) { v.Sig = append(v.Sig, 0) }, func(v *api.Value) { v.Sig = append([]byte{0}, v.Sig...) }, func(v *api.Value) { v.Sig = make([]byte, 27) },
		func(v *api.Value) { v.Sig = make([]byte, 129) }, func(v *api.Value) { v.Sig = bytes.Repeat([]byte{255}, 27) },
	}
	for bit := range 32 {
		l = append(l, func(v *api.Value) { v.TS ^= 1 << bit }, func(v *api.Value) { v.FS ^= 1 << bit })
	}
	for bit := range 27 * 8 {
		l = append(l, func(v *api.Value) { v.Sig[bit/8] ^= 1 << (bit % 8) })
	}
	return l
}

// What is too long is told first, though it be signed.
func TestCheckLong(t *testing.T) {
	k := keyOf(t, 1, 216)
	for _, n := range []int{2048, 2049, 2050, 5000, 1 << 20} {
		want := api.ErrLong
		if n == 2048 {
			want = api.OK
		}
		v := api.Value{TS: 1, FS: 2, Data: drawn(1, n)}
		v.Sig, _ = pkey.Sign(k, signedOf(v))
		if e := values.Check(k, v); e != want {
			t.Errorf("Check of %d bytes: %v, want %v", n, e, want)
		}
		if e := values.Check(api.Key{}, v); n > 2048 && e != api.ErrLong {
			t.Errorf("Check of %d bytes with no key: %v", n, e)
		}
		v.Sig = nil
		if e := values.Check(k, v); n > 2048 && e != api.ErrLong {
			t.Errorf("Check of %d bytes without Sig: %v", n, e)
		}
	}
}

func TestNewer(t *testing.T) {
	for _, c := range []struct {
		fs, ts, otherFS, otherTS uint32
		want                     bool
	}{
		{0, 0, 0, 0, false}, {1, 0, 0, 0, true}, {0, 0, 1, 0, false}, {0, 1, 0, 0, true}, {0, 0, 0, 1, false}, {1, 0, 0, 1 << 31, true}, {0, 1<<32 - 1, 1, 0, false},
		{5, 5, 5, 5, false}, {5, 6, 5, 5, true}, {5, 5, 5, 6, false}, {6, 5, 5, 6, true}, {5, 6, 6, 5, false}, {1<<32 - 1, 0, 0, 1<<32 - 1, true}, {1 << 31, 0, 1<<31 - 1, 9, true},
		{1<<32 - 1, 1<<32 - 1, 1<<32 - 1, 1<<32 - 2, true}, {0, 1 << 31, 0, 1<<31 - 1, true}, {0, 0, 1<<32 - 1, 0, false},
	} {
		a, b := api.Value{FS: c.fs, TS: c.ts}, api.Value{FS: c.otherFS, TS: c.otherTS}
		if values.Newer(a, b) != c.want {
			t.Errorf("Newer(%v, %v) = %v", a, b, !c.want)
		}
		// Data and Sig play no part.
		a.Data, b.Sig = []byte{9}, []byte{200}
		if values.Newer(a, b) != c.want {
			t.Errorf("Newer(%v, %v) = %v", a, b, !c.want)
		}
	}
	r := rand.New(rand.NewSource(122))
	for range 20000 {
		a, b := anyValue(r), anyValue(r)
		if r.Intn(2) == 0 {
			b.FS = a.FS
		}
		if got, want := values.Newer(a, b), isNewer(a, b); got != want {
			t.Fatalf("Newer(%v, %v) = %v", a, b, got)
		}
	}
}

// P12.3: Pair, PairOf.
func TestPair(t *testing.T) {
	for _, c := range []struct {
		a, b uint32
		want []byte
	}{
		{0, 0, make([]byte, 8)}, {1, 2, []byte{0, 0, 0, 1, 0, 0, 0, 2}}, {0x01020304, 0xfffefdfc, []byte{1, 2, 3, 4, 255, 254, 253, 252}}, {1 << 31, 255, []byte{128, 0, 0, 0, 0, 0, 0, 255}},
		{1<<32 - 1, 0, []byte{255, 255, 255, 255, 0, 0, 0, 0}}, {0, 1<<32 - 1, []byte{0, 0, 0, 0, 255, 255, 255, 255}},
	} {
		if got := values.Pair(c.a, c.b); !bytes.Equal(got, c.want) {
			t.Errorf("Pair(%d, %d) = %v, want %v", c.a, c.b, got, c.want)
		}
		if a, b, e := values.PairOf(c.want); a != c.a || b != c.b || e != api.OK {
			t.Errorf("PairOf(%v) = %d, %d, %v", c.want, a, b, e)
		}
	}
	r := rand.New(rand.NewSource(123))
	for range 2000 {
		a, b := anyOf(r), anyOf(r)
		if c, d, e := values.PairOf(values.Pair(a, b)); c != a || d != b || e != api.OK {
			t.Fatalf("PairOf(Pair(%d, %d)) = %d, %d, %v", a, b, c, d, e)
		}
		l := drawn(r.Int63(), 8)
		if a, b, _ = values.PairOf(l); !bytes.Equal(values.Pair(a, b), l) {
			t.Fatalf("Pair(PairOf(%v)) = %v", l, values.Pair(a, b))
		}
	}
}

func TestPairOfWrong(t *testing.T) {
	for _, n := range []int{0, 1, 2, 3, 4, 5, 6, 7, 9, 10, 12, 16, 64, 1 << 20} {
		if a, b, e := values.PairOf(bytes.Repeat([]byte{7}, n)); a != 0 || b != 0 || e != api.ErrForm {
			t.Errorf("PairOf of %d bytes = %d, %d, %v", n, a, b, e)
		}
	}
	if a, b, e := values.PairOf(nil); a != 0 || b != 0 || e != api.ErrForm {
		t.Errorf("PairOf(nil) = %d, %d, %v", a, b, e)
	}
}
