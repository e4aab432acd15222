package values_test

import (
	"bytes"
	"crypto/sha256"
	"math/rand"
	"slices"
	"testing"

	"clepsydra/api"
	"clepsydra/pkey"
	"clepsydra/values"
	"clepsydra/wire"
)

// P12.4: what was signed with a key of two primes is checked with it, and with another TS, FS or Data it is not, but where the marks are the same.
func TestSignedIsChecked(t *testing.T) {
	r := rand.New(rand.NewSource(124))
	for seed := range int64(20) {
		k := keyOf(t, 100+seed, 216+2*r.Intn(150))
		for range 10 {
			v, e := values.Sign(k, anyValue(r))
			if e != api.OK {
				t.Fatalf("Sign: %v", e)
			}
			if e := values.Check(pkey.Public(k), v); e != api.OK {
				t.Fatalf("Check(%v): %v", v, e)
			}
			for range 10 {
				other := changed(r, v)
				want := api.ErrSig
				if markOf(other) == markOf(v) {
					want = api.OK
				}
				if e := values.Check(k, other); e != want {
					t.Fatalf("Check(%v), signed as %v: %v, want %v", other, v, e, want)
				}
			}
		}
	}
}

// changed is a value with its signature, and another TS, FS or Data; once in a while it is the same one.
func changed(r *rand.Rand, v api.Value) api.Value {
	v.Data = slices.Clone(v.Data)
	switch r.Intn(6) {
	case 0:
		v.TS = anyOf(r)
	case 1:
		v.FS = anyOf(r)
	case 2:
		v.TS, v.FS = v.FS, v.TS
	case 3:
		v.Data = v.Data[:len(v.Data)/2]
	case 4:
		if len(v.Data) > 0 {
			v.Data[r.Intn(len(v.Data))] ^= byte(r.Intn(256))
		}
	case 5:
		if len(v.Data) < 2048 {
			v.Data = append(v.Data, 0)
		}
	}
	return v
}

// markOf is what a signature tells of a value.
func markOf(v api.Value) [16]byte {
	sum := sha256.Sum256(signedOf(v))
	return [16]byte(sum[:])
}

// P4: what was signed is signed, when it comes in a packet; another value is not.
func TestSignedInPackets(t *testing.T) {
	r := rand.New(rand.NewSource(125))
	k := keyOf(t, 1, 300)
	for range 100 {
		v, e := values.Sign(k, anyValue(r))
		if e != api.OK {
			t.Fatalf("Sign: %v", e)
		}
		b, e := wire.Write(api.Packet{Version: 4, Mode: api.ModeServer, Exts: []api.Ext{{Op: api.OpAuto, Resp: true, TS: v.TS, FS: v.FS, Value: v.Data, Sig: v.Sig}}})
		if e != api.OK {
			t.Fatalf("Write: %v", e)
		}
		if e := values.Check(pkey.Public(k), comeIn(t, b)); e != api.OK {
			t.Fatalf("what was signed is not signed: %v", e)
		}
		// TS, FS, Data and Sig begin 8 bytes behind the field; their lengths are left as they are.
		at := 48 + 8 + r.Intn(8)
		if r.Intn(2) == 0 && len(v.Data) > 0 {
			at = 48 + 20 + r.Intn(len(v.Data))
		}
		b[at] ^= byte(1 + r.Intn(255))
		if e := values.Check(pkey.Public(k), comeIn(t, b)); e != api.ErrSig {
			t.Fatalf("byte %d is changed: %v", at, e)
		}
	}
}

// comeIn is the value of a packet's first field.
func comeIn(t *testing.T, b []byte) api.Value {
	t.Helper()
	p, fault := wire.Read(b)
	if fault.Code != api.OK || len(p.Exts) == 0 {
		t.Fatalf("Read: %v", fault)
	}
	x := p.Exts[0]
	return api.Value{TS: x.TS, FS: x.FS, Data: x.Value, Sig: x.Sig}
}

// P12.5: a shelf tells of each sort the newest value that it was given, as long as there was room; of several of which none is newer, the first one.
func TestNewestIsTold(t *testing.T) {
	for seed := range int64(100) {
		r := rand.New(rand.NewSource(seed))
		s := shelfOf(t, 64)
		given := map[int][]api.Value{}
		for range 500 {
			sort, v := r.Intn(64), api.Value{TS: uint32(r.Intn(3)), FS: uint32(r.Intn(3)), Data: drawn(r.Int63(), 4)}
			if e := s.Put(sort, v); e != api.OK && e != api.ErrOld {
				t.Fatalf("Put: %v", e)
			}
			given[sort] = append(given[sort], v)
		}
		want := map[int]api.Value{}
		for sort, l := range given {
			// The library's sort leaves those that are alike in their order.
			slices.SortStableFunc(l, func(a, b api.Value) int {
				if isNewer(a, b) {
					return -1
				}
				if isNewer(b, a) {
					return 1
				}
				return 0
			})
			want[sort] = l[0]
		}
		wantShelf(t, s, want)
	}
}

// P12.6: of two values that are unlike in FS or TS just one is newer; nothing is newer than itself, and what is newer than a newer one is newer.
func TestNewerIsAnOrder(t *testing.T) {
	var l []api.Value
	for _, ts := range edges() {
		for _, fs := range edges() {
			l = append(l, api.Value{TS: ts, FS: fs})
		}
	}
	for _, a := range l {
		if values.Newer(a, a) {
			t.Fatalf("%v is newer than itself", a)
		}
		for _, b := range l {
			unlike := a.TS != b.TS || a.FS != b.FS
			if (values.Newer(a, b) != values.Newer(b, a)) != unlike {
				t.Fatalf("of %v and %v both, or none, are newer", a, b)
			}
			if !values.Newer(a, b) {
				continue
			}
			for _, c := range l {
				if values.Newer(b, c) && !values.Newer(a, c) {
					t.Fatalf("%v is not newer than %v, but than %v, which is", a, c, b)
				}
			}
		}
	}
}

// Rules 4 and 5: what is handed in is not changed and not kept, what lies behind it plays no part; what is handed out is new memory.
func TestMemoryOfSignatures(t *testing.T) {
	plain := keyOf(t, 1, 216)
	for _, n := range append(sizes(), 2049) {
		k, kKept := keptKey(plain)
		want := api.Value{TS: 1, FS: 2, Data: drawn(1, n), Sig: drawn(2, 5)}
		v, vKept := keptValue(want)
		b := values.Signed(v)
		if !bytes.Equal(b, signedOf(want)) {
			t.Fatal("Signed hangs on what lies behind Data")
		}
		fill(b)
		got, e := values.Sign(k, v)
		if n > 2048 {
			if e != api.ErrLong || !vKept() || !kKept() {
				t.Fatalf("Sign: %v", e)
			}
			continue
		}
		want.Sig, _ = pkey.Sign(plain, signedOf(want))
		if e != api.OK || !same(got, want) {
			t.Fatalf("Sign = %v, %v, want %v", got, e, want)
		}
		fill(got.Data)
		if !bytes.Equal(got.Sig, want.Sig) {
			t.Fatal("Data and Sig share memory")
		}
		fill(got.Sig)
		if !vKept() || !kKept() {
			t.Fatal("what was handed in is changed, or shared")
		}
		v, vKept = keptValue(want)
		if e := values.Check(k, v); e != api.OK || !vKept() || !kKept() {
			t.Fatalf("Check: %v", e)
		}
	}
	l, lKept := kept(values.Pair(5, 6))
	if a, b, e := values.PairOf(l); a != 5 || b != 6 || e != api.OK || !lKept() {
		t.Errorf("PairOf = %d, %d, %v", a, b, e)
	}
	if _, _, e := values.PairOf(l[:7]); e != api.ErrForm {
		t.Errorf("PairOf of seven bytes, and more behind: %v", e)
	}
	fill(values.Pair(5, 6))
	if got := values.Pair(5, 6); !bytes.Equal(got, []byte{0, 0, 0, 5, 0, 0, 0, 6}) {
		t.Errorf("Pair = %v", got)
	}
}

func TestMemoryOfShelves(t *testing.T) {
	s := shelfOf(t, 3)
	want := map[int]api.Value{}
	// Once as new ones, and once in their place.
	for ts := range uint32(2) {
		for sort := range 3 {
			want[sort] = api.Value{TS: ts, FS: 2, Data: drawn(int64(sort), 2048), Sig: drawn(int64(sort), 128)}
			v, vKept := keptValue(want[sort])
			if e := s.Put(sort, v); e != api.OK || !vKept() {
				t.Fatalf("Put changed a value: %v", e)
			}
			fill(v.Data)
			fill(v.Sig)
			wantShelf(t, s, want)
		}
	}
	for range 2 {
		fill(s.Sorts())
		for sort := range 3 {
			v, _ := s.Get(sort)
			fill(v.Data)
			if !bytes.Equal(v.Sig, want[sort].Sig) {
				t.Fatal("Data and Sig share memory")
			}
			fill(v.Sig)
		}
		wantShelf(t, s, want)
	}
}

// Rule 8: sorts are told rising, however often they are asked for.
func TestSortsAgain(t *testing.T) {
	r := rand.New(rand.NewSource(126))
	var want []int
	s := shelfOf(t, 64)
	for _, sort := range r.Perm(64) {
		s.Put(sort*1000, api.Value{})
		want = append(want, sort*1000)
	}
	slices.Sort(want)
	for range 200 {
		if got := s.Sorts(); !slices.Equal(got, want) {
			t.Fatalf("Sorts = %v, want %v", got, want)
		}
	}
}

// P1: no call panics, and each ends, at values and keys of any size.
func TestAnySize(t *testing.T) {
	huge := drawn(127, 1<<22)
	limbs := slices.Repeat(api.Nat{1<<64 - 1, 7}, 100000)
	for _, k := range []api.Key{{}, {N: limbs, E: limbs, D: limbs}, {N: limbs}, {E: limbs, D: limbs}, {N: api.Nat{0, 0}, E: api.Nat{0}, D: api.Nat{0}}, keyOf(t, 1, 216)} {
		for _, v := range []api.Value{{}, {Data: huge}, {Sig: huge}, {Data: huge, Sig: huge}, {TS: 1<<32 - 1, FS: 1<<32 - 1, Data: huge[:2048], Sig: huge[:128]}} {
			want := api.ErrSig
			if len(v.Data) > 2048 {
				want = api.ErrLong
			}
			if e := values.Check(k, v); e != want {
				t.Errorf("Check: %v, want %v", e, want)
			}
			got, e := values.Sign(k, v)
			if (e == api.OK) != (want == api.ErrSig && len(k.N) == 4) || e != api.OK && !isZero(got) {
				t.Errorf("Sign: %v", e)
			}
		}
	}
	if a, b, e := values.PairOf(huge); a != 0 || b != 0 || e != api.ErrForm {
		t.Errorf("PairOf: %v", e)
	}
}
