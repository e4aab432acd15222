package trail_test

import (
	"math"
	"math/rand"
	"slices"
	"strings"
	"testing"

	"clepsydra/api"
	"clepsydra/cert"
	"clepsydra/nat"
	"clepsydra/trail"
)

// P9.1: New, All, Put, Drop.

// plain is a right certificate without a signature, valid from some second on.
func plain(issuer, subject string, from uint32) api.Cert {
	return api.Cert{Serial: 1, Issuer: issuer, Subject: subject, From: from, To: math.MaxUint32, N: nat.Of(64507), E: nat.Of(17)}
}

// wrongs are certificates that are not right.
func wrongs() []api.Cert {
	l := []api.Cert{{}, {Issuer: "a", Subject: "b"}}
	for _, change := range []func(c *api.Cert){
		func(c *api.Cert) { c.Issuer = "" }, func(c *api.Cert) { c.Subject = "" }, func(c *api.Cert) { c.Subject = "a b" }, func(c *api.Cert) { c.Issuer = strings.Repeat("a", 33) },
		func(c *api.Cert) { c.From, c.To = 9, 8 }, func(c *api.Cert) { c.N = nil }, func(c *api.Cert) { c.E = nat.Of(16) }, func(c *api.Cert) { c.Usage = -1 },
		func(c *api.Cert) { c.Usage = 8 }, func(c *api.Cert) { c.Sig = make([]byte, 129) },
	} {
		c := plain("a", "b", 5)
		change(&c)
		l = append(l, c)
	}
	return l
}

func TestNew(t *testing.T) {
	for _, room := range []int{math.MinInt, -33, -1, 0, 33, 34, 1 << 32, 1<<32 + 1, math.MaxInt} {
		if s, e := trail.New(room); s != nil || e != api.ErrArg {
			t.Errorf("New(%d) = %v, %v", room, s, e)
		}
	}
	for room := 1; room <= 32; room++ {
		s, e := trail.New(room)
		if s == nil || e != api.OK || len(s.All()) > 0 {
			t.Fatalf("New(%d) = %v, %v", room, s, e)
		}
		var want []api.Cert
		for i := range room {
			c := plain("a", nameOf(i%20)+nameOf(i/20), 5)
			if e := s.Put(c); e != api.OK {
				t.Fatalf("Put of certificate %d of %d: %v", i, room, e)
			}
			want = append(want, c)
			wantAll(t, s, want...)
		}
		if e := s.Put(plain("b", "a", 5)); e != api.ErrFull {
			t.Errorf("Put beyond a room of %d: %v", room, e)
		}
		wantAll(t, s, want...)
	}
}

// Two stores know nothing of each other.
func TestNewTwice(t *testing.T) {
	s, other := storeOf(t, plain("a", "b", 5)), storeOf(t)
	wantAll(t, other)
	if e := other.Drop("a", "b"); e != api.ErrNone {
		t.Errorf("Drop: %v", e)
	}
	wantAll(t, s, plain("a", "b", 5))
}

func TestNoStore(t *testing.T) {
	for _, s := range []*trail.Store{nil, {}, new(trail.Store)} {
		for _, c := range append(wrongs(), plain("a", "a", 5)) {
			if e := s.Put(c); e != api.ErrNil {
				t.Errorf("Put: %v", e)
			}
		}
		if e := s.Drop("a", "a"); e != api.ErrNil {
			t.Errorf("Drop: %v", e)
		}
		if l := s.All(); len(l) > 0 {
			t.Errorf("All = %v", l)
		}
		for _, name := range []string{"", "a"} {
			if l, e := s.Find(name, 5, []string{"a"}); e != api.ErrNil || len(l) > 0 {
				t.Errorf("Find = %v, %v", l, e)
			}
		}
	}
}

func TestPutWrong(t *testing.T) {
	held := []api.Cert{plain("a", "a", 5), plain("a", "b", 9)}
	s, _ := trail.New(2)
	for _, c := range held {
		s.Put(c)
	}
	// Of a full store, and of one with room, and with such names in it or not: what is wrong is told first.
	for _, s := range []*trail.Store{s, storeOf(t, held...)} {
		for _, c := range wrongs() {
			if e := s.Put(c); e != api.ErrCert || cert.Right(c) != api.ErrCert {
				t.Errorf("Put(%v): %v", c, e)
			}
			wantAll(t, s, held...)
		}
	}
}

func TestPutAgain(t *testing.T) {
	held := []api.Cert{plain("a", "a", 5), plain("a", "b", 9), plain("b", "b", math.MaxUint32), plain("c", "b", 0)}
	s, _ := trail.New(4)
	for _, c := range held {
		if e := s.Put(c); e != api.OK {
			t.Fatalf("Put: %v", e)
		}
	}
	for _, c := range []struct {
		at   int
		from uint32
		want api.Errno
	}{
		{1, 8, api.ErrArg}, {1, 0, api.ErrArg}, {1, 9, api.OK}, {1, 10, api.OK}, {1, 9, api.ErrArg}, {1, 10, api.OK}, {1, math.MaxUint32, api.OK}, {1, math.MaxUint32 - 1, api.ErrArg},
		{0, 4, api.ErrArg}, {0, 1 << 31, api.OK}, {0, 1<<31 - 1, api.ErrArg}, {2, math.MaxUint32 - 1, api.ErrArg}, {2, math.MaxUint32, api.OK}, {3, 0, api.OK}, {3, 1, api.OK}, {3, 0, api.ErrArg},
	} {
		next := plain(held[c.at].Issuer, held[c.at].Subject, c.from)
		next.Serial, next.Usage, next.N, next.Sig = held[c.at].Serial+1, 7, api.Nat{64509, 0}, []byte{1, 2, byte(c.at)}
		if e := s.Put(next); e != c.want {
			t.Errorf("Put(%d from %d): %v, want %v", c.at, c.from, e, c.want)
		}
		if c.want == api.OK {
			held[c.at] = next
		}
		wantAll(t, s, held...)
	}
	if e := s.Put(plain("d", "b", 5)); e != api.ErrFull {
		t.Errorf("Put: %v", e)
	}
	wantAll(t, s, held...)
}

// Other names, however near they are, are others.
func TestPutNearNames(t *testing.T) {
	pairs := [][2]string{{"a", "b"}, {"b", "a"}, {"a", "a"}, {"b", "b"}, {"ab", "c"}, {"a", "bc"}, {"abc", "a"}, {"A", "b"}, {"a", "B"}, {"a,", "b"}, {"a", ",b"}, {"a>b", "c"}, {"a", "b>c"}}
	var want []api.Cert
	s := storeOf(t)
	for i, p := range pairs {
		c := plain(p[0], p[1], uint32(100-i))
		if e := s.Put(c); e != api.OK {
			t.Errorf("Put(%q): %v", p, e)
		}
		want = append(want, c)
		wantAll(t, s, want...)
	}
	for _, p := range [][2]string{{"", "ab"}, {"ab", ""}, {"", ""}, {"a ", "b"}, {"c", "ab"}, {"b", "c"}, {"a", "c"}, {"a\x00", "b"}, {strings.Repeat("a", 1<<20), "b"}} {
		if e := s.Drop(p[0], p[1]); e != api.ErrNone {
			t.Errorf("Drop(%.9q): %v", p, e)
		}
		wantAll(t, s, want...)
	}
	for len(want) > 0 {
		at := len(want) / 2
		for _, code := range []api.Errno{api.OK, api.ErrNone} {
			if e := s.Drop(want[at].Issuer, want[at].Subject); e != code {
				t.Errorf("Drop of %v: %v, want %v", told(want[at:at+1]), e, code)
			}
		}
		want = slices.Delete(want, at, at+1)
		wantAll(t, s, want...)
	}
}

// What was dropped leaves room, and what is put then stands behind all others.
func TestDropAndPut(t *testing.T) {
	s, _ := trail.New(3)
	a, b, c, d := plain("a", "a", 5), plain("b", "b", 5), plain("c", "c", 5), plain("d", "d", 5)
	for _, x := range []api.Cert{a, b, c} {
		s.Put(x)
	}
	if e := s.Drop("a", "a"); e != api.OK {
		t.Fatalf("Drop: %v", e)
	}
	wantAll(t, s, b, c)
	// It was forgotten: an older one is put.
	a.From = 1
	if e := s.Put(a); e != api.OK {
		t.Errorf("Put: %v", e)
	}
	wantAll(t, s, b, c, a)
	if e := s.Put(d); e != api.ErrFull {
		t.Errorf("Put: %v", e)
	}
	s.Drop("a", "a")
	s.Drop("b", "b")
	s.Put(d)
	s.Put(b)
	wantAll(t, s, c, d, b)
}

// Any calls, held against a list.
func TestStoreByChance(t *testing.T) {
	r := rand.New(rand.NewSource(91))
	codes := map[api.Errno]int{}
	for range 300 {
		room := 1 + r.Intn(9)
		s, _ := trail.New(room)
		var want []api.Cert
		for range 60 {
			c := plain(nameOf(r.Intn(4)), nameOf(r.Intn(4)), uint32(r.Intn(4)))
			c.Serial = r.Uint32()
			at := slices.IndexFunc(want, func(d api.Cert) bool { return d.Issuer == c.Issuer && d.Subject == c.Subject })
			code := api.OK
			if r.Intn(3) == 0 {
				if at < 0 {
					code = api.ErrNone
				} else {
					want = slices.Delete(want, at, at+1)
				}
				if e := s.Drop(c.Issuer, c.Subject); e != code {
					t.Fatalf("Drop: %v, want %v", e, code)
				}
			} else {
				switch {
				case at >= 0 && want[at].From > c.From:
					code = api.ErrArg
				case at >= 0:
					want[at] = c
				case len(want) == room:
					code = api.ErrFull
				default:
					want = append(want, c)
				}
				if e := s.Put(c); e != code {
					t.Fatalf("Put: %v, want %v", e, code)
				}
			}
			codes[code]++
			wantAll(t, s, want...)
		}
	}
	for _, e := range []api.Errno{api.OK, api.ErrArg, api.ErrNone, api.ErrFull} {
		if codes[e] < 500 {
			t.Errorf("%v is met %d times", e, codes[e])
		}
	}
}
