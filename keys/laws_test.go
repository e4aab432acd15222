package keys_test

import (
	"bytes"
	"math/rand"
	"slices"
	"testing"

	"clepsydra/api"
	"clepsydra/keys"
	"clepsydra/wire"
)

// P11.4: each number of a list leads to each later one, by as many hops as lie between, or fewer.
func TestLaterNumbers(t *testing.T) {
	r := rand.New(rand.NewSource(114))
	fewer := 0
	look := func(s session, first uint32) {
		l, e := keys.List(s.src, s.dst, first, s.cookie, 256)
		if e != api.OK {
			t.Fatalf("List: %v", e)
		}
		for range 300 {
			from := r.Intn(256)
			to := from + r.Intn(256-from)
			n, e := keys.Hops(s.src, s.dst, l[from], s.cookie, l[to], to-from)
			if e != api.OK || n > to-from {
				t.Fatalf("Hops from place %d to %d of %v = %d, %v", from, to, s, n, e)
			}
			if n < to-from {
				fewer++
			}
			// So many hops lead there indeed.
			if got := walk(s, l[from], n+1)[n]; got != l[to] {
				t.Fatalf("%d hops from place %d of %v lead to %d", n, from, s, got)
			}
		}
	}
	for range 30 {
		look(session{anyOf(r), anyOf(r), anyOf(r)}, anyOf(r))
	}
	for _, x := range rings() {
		look(x.session, x.first)
	}
	if fewer < 100 {
		t.Errorf("only %d are led to by fewer hops", fewer)
	}
}

// P11.5: a part of a list is the list that begins there.
func TestPartsOfLists(t *testing.T) {
	r := rand.New(rand.NewSource(115))
	for range 200 {
		s := session{anyOf(r), anyOf(r), anyOf(r)}
		n := 1 + r.Intn(256)
		l, _ := keys.List(s.src, s.dst, anyOf(r), s.cookie, n)
		from := r.Intn(n)
		to := from + 1 + r.Intn(n-from)
		part, e := keys.List(s.src, s.dst, l[from], s.cookie, to-from)
		if e != api.OK || !slices.Equal(part, l[from:to]) {
			t.Fatalf("List from place %d to %d of %v = %v, %v, want %v", from, to, s, part, e, l[from:to])
		}
	}
}

// P11.6, P4: what was sealed is sealed, when it comes in a packet, and with another sum, cookie, key number or front it is not.
func TestSealedInPackets(t *testing.T) {
	r := rand.New(rand.NewSource(116))
	for range 300 {
		src, dst, cookie, id := anyOf(r), anyOf(r), anyOf(r), anyOf(r)
		p := anyPacket(r)
		// A Mac of noughts first, for the front that it stands behind.
		p.Mac = api.Mac{Has: true, Key: id, Sum: make([]byte, 16)}
		p.Mac.Sum = keys.Mac(keys.Session(src, dst, id, cookie), frontOf(t, p))
		b, e := wire.Write(p)
		if e != api.OK {
			t.Fatalf("Write: %v", e)
		}
		got, fault := wire.Read(b)
		front, e := wire.Front(b)
		if fault.Code != api.OK || e != api.OK || !keys.Sealed(src, dst, got.Mac.Key, cookie, front, got.Mac.Sum) {
			t.Fatalf("what was sealed is not sealed: %v, %v", fault, e)
		}
		if keys.Sealed(src, dst, got.Mac.Key, cookie^1<<r.Intn(32), front, got.Mac.Sum) {
			t.Fatal("for another cookie it is sealed")
		}
		// Whatever byte is changed, from the packet's head to its sum, its key number too.
		b[r.Intn(len(b))] ^= byte(1 + r.Intn(255))
		if got, fault = wire.Read(b); fault.Code != api.OK {
			continue
		}
		if front, _ = wire.Front(b); keys.Sealed(src, dst, got.Mac.Key, cookie, front, got.Mac.Sum) {
			t.Fatalf("%x was changed, and is sealed", b)
		}
	}
}

// anyPacket is a right packet without a Mac, by chance.
func anyPacket(r *rand.Rand) api.Packet {
	p := api.Packet{
		Leap: r.Intn(4), Version: 4, Mode: 1 + r.Intn(5), Stratum: r.Intn(17), Poll: r.Intn(18), Prec: r.Intn(256) - 128,
		Delay: r.Uint32(), Disp: r.Uint32(), RefID: r.Uint32(), Ref: r.Uint64(), Org: r.Uint64(), Rec: r.Uint64(), Xmt: r.Uint64(),
	}
	for range r.Intn(4) {
		p.Exts = append(p.Exts, api.Ext{Op: 1 + r.Intn(8), Resp: r.Intn(2) == 0, Assoc: r.Intn(100), TS: r.Uint32(), FS: r.Uint32(), Value: drawn(r.Int63(), r.Intn(50)), Sig: drawn(r.Int63(), r.Intn(50))})
	}
	return p
}

// frontOf is the front of a packet's bytes.
func frontOf(t *testing.T, p api.Packet) []byte {
	t.Helper()
	b, e := wire.Write(p)
	if e != api.OK {
		t.Fatalf("Write: %v", e)
	}
	front, e := wire.Front(b)
	if e != api.OK {
		t.Fatalf("Front: %v", e)
	}
	return front
}

// P4: for another cookie a front is sealed just where the sums are the same; so each cookie of some thousands seals but its own.
func TestOtherCookies(t *testing.T) {
	front := drawn(117, 100)
	sum := keys.Mac(keys.Session(1, 2, 3, 4), front)
	for cookie := range uint32(5000) {
		if got, want := keys.Sealed(1, 2, 3, cookie, front, sum), bytes.Equal(sealOf(keyOf(1, 2, 3, cookie), front), sum); got != want || got != (cookie == 4) {
			t.Fatalf("for the cookie %d: %v, want %v", cookie, got, want)
		}
	}
}

// Rules 4 and 5: what is handed in is not changed, what lies behind it plays no part; what is handed out is new memory.
func TestMemory(t *testing.T) {
	want := keyOf(1, 2, 3, 4)
	for range 2 {
		key := keys.Session(1, 2, 3, 4)
		if !bytes.Equal(key, want) {
			t.Fatalf("Session = %x, want %x", key, want)
		}
		fill(key)
		l, _ := keys.List(1, 2, 3, 4, 256)
		if !slices.Equal(l, walk(session{1, 2, 4}, 3, 256)) {
			t.Fatalf("List = %v", l)
		}
		fill(l)
	}
	for _, plain := range texts() {
		key, keyKept := kept(plain)
		front, frontKept := kept(plain)
		sum := keys.Mac(key, front)
		if !bytes.Equal(sum, sealOf(plain, plain)) {
			t.Fatal("Mac hangs on what lies behind key or front")
		}
		fill(sum)
		if keys.Bound(1, 2, 3, front) != cookieOf(plain, 1, 2, 1, 3) {
			t.Fatal("Bound hangs on what lies behind a face")
		}
		sum, sumKept := kept(sealOf(want, plain))
		if !keys.Sealed(1, 2, 3, 4, front, sum) || keys.Sealed(1, 2, 3, 4, front, sum[:15]) {
			t.Fatal("Sealed hangs on what lies behind front or sum")
		}
		if !keyKept() || !frontKept() || !sumKept() {
			t.Fatal("what was handed in is changed, or shared")
		}
	}
}

// One list may be key and front and sum at once.
func TestSharedArguments(t *testing.T) {
	b := keys.Session(1, 2, 3, 4)
	if got := keys.Mac(b[:8], b[8:]); !bytes.Equal(got, sealOf(nil, b)) {
		t.Errorf("Mac = %x", got)
	}
	if keys.Sealed(1, 2, 3, 4, b, b) {
		t.Error("Sealed")
	}
	if !bytes.Equal(b, keyOf(1, 2, 3, 4)) {
		t.Error("what was handed in is changed")
	}
}

// P1: each call ends at bytes of any size.
func TestAnySize(t *testing.T) {
	huge := drawn(118, 1<<24)
	if got := keys.Mac(huge, huge); !bytes.Equal(got, sealOf(huge, huge)) {
		t.Errorf("Mac = %x", got)
	}
	if got := keys.Bound(1, 2, 3, huge); got != cookieOf(huge, 1, 2, 1, 3) {
		t.Errorf("Bound = %d", got)
	}
	if !keys.Sealed(1, 2, 3, 4, huge, sealOf(keyOf(1, 2, 3, 4), huge)) || keys.Sealed(1, 2, 3, 4, huge, huge) {
		t.Error("Sealed")
	}
}
