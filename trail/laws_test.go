package trail_test

import (
	"math/rand"
	"slices"
	"strings"
	"testing"

	"clepsydra/api"
	"clepsydra/cert"
	"clepsydra/trail"
)

// eachFound does something with trails that are found by chance, and with what they are found in, and of.
func eachFound(t *testing.T, do func(got, l []api.Cert, subject string, trusted []string)) {
	count := 0
	worlds(t, 600, func(r *rand.Rand, s *trail.Store, l []api.Cert) {
		for i := range 6 {
			trusted := []string{nameOf(r.Intn(6)), nameOf(r.Intn(6)), nameOf(r.Intn(6))}
			if got, e := s.Find(nameOf(i), 145, trusted); e == api.OK {
				count++
				do(got, l, nameOf(i), trusted)
			}
		}
	})
	if count < 100 {
		t.Errorf("only %d are found", count)
	}
}

// P9.4: what is found holds, and is made of certificates of the store.
func TestFoundIsOfTheStore(t *testing.T) {
	eachFound(t, func(got, l []api.Cert, subject string, trusted []string) {
		if e := trail.Holds(got, subject, 145, trusted); e != api.OK {
			t.Fatalf("Holds(%v): %v", told(got), e)
		}
		for at, c := range got {
			if !slices.ContainsFunc(l, func(d api.Cert) bool { return same(c, d) }) {
				t.Fatalf("%v is not of the store", told(got[at:at+1]))
			}
			if slices.ContainsFunc(got[:at], func(d api.Cert) bool { return same(c, d) }) {
				t.Fatalf("%v stands twice", told(got[at:at+1]))
			}
		}
	})
}

// P9.5: a trail of certificates that are in the store is found, or a shorter one, or one as long. Rows of certificates are gone by chance; where they make a trail one must be found.
func TestEachTrailIsFound(t *testing.T) {
	count := 0
	worlds(t, 600, func(r *rand.Rand, s *trail.Store, l []api.Cert) {
		trusted := []string{nameOf(r.Intn(6)), nameOf(r.Intn(6)), nameOf(r.Intn(6))}
		for range 100 {
			row := anyRow(r, l)
			if len(row) == 0 || trail.Holds(row, row[0].Subject, 145, trusted) != api.OK {
				continue
			}
			count++
			got, e := s.Find(row[0].Subject, 145, trusted)
			if e != api.OK || len(got) > len(row) {
				t.Fatalf("Find = %v, %v, and there is %v", told(got), e, told(row))
			}
		}
	})
	if count < 1000 {
		t.Errorf("only %d trails are met", count)
	}
}

// anyRow is a row of certificates, by chance, each behind the first one of the issuer's name, up to its own.
func anyRow(r *rand.Rand, l []api.Cert) []api.Cert {
	if len(l) == 0 {
		return nil
	}
	row := []api.Cert{l[r.Intn(len(l))]}
	for range 9 {
		last := row[len(row)-1]
		if cert.Self(last) && r.Intn(4) > 0 {
			return row
		}
		fits := slices.DeleteFunc(slices.Clone(l), func(c api.Cert) bool { return c.Subject != last.Issuer })
		if len(fits) == 0 {
			return nil
		}
		row = append(row, fits[r.Intn(len(fits))])
	}
	return row
}

// P9.6: with a certificate more no name loses its trail, and no trail gets longer.
func TestOneMore(t *testing.T) {
	keys := keysOf(t, 6)
	shorter := 0
	worlds(t, 600, func(r *rand.Rand, s *trail.Store, l []api.Cert) {
		trusted := []string{nameOf(r.Intn(6)), nameOf(r.Intn(6)), nameOf(r.Intn(6))}
		var before [6]int
		for i := range before {
			got, _ := s.Find(nameOf(i), 145, trusted)
			before[i] = len(got)
		}
		for range 5 {
			c := anyCert(t, r, keys, 6)
			if slices.ContainsFunc(s.All(), func(d api.Cert) bool { return d.Issuer == c.Issuer && d.Subject == c.Subject }) || s.Put(c) != api.OK {
				continue
			}
			for i := range before {
				got, e := s.Find(nameOf(i), 145, trusted)
				if before[i] > 0 && (e != api.OK || len(got) > before[i]) {
					t.Fatalf("with %v the trail of %s is %v, %v, and had %d", told([]api.Cert{c}), nameOf(i), told(got), e, before[i])
				}
				if len(got) != before[i] {
					shorter++
				}
				before[i] = len(got)
			}
		}
	})
	if shorter < 50 {
		t.Errorf("only %d trails are changed", shorter)
	}
}

// P9.7: out of its time, or with other trusted names, a trail does not hold.
func TestOutOfTime(t *testing.T) {
	eachFound(t, func(got, l []api.Cert, subject string, trusted []string) {
		from, to := got[0].From, got[0].To
		for _, c := range got {
			from, to = max(from, c.From), min(to, c.To)
		}
		for now, want := range map[uint32]api.Errno{from - 1: api.ErrTrail, from: api.OK, to: api.OK, to + 1: api.ErrTrail, 0: api.ErrTrail, 1 << 31: api.ErrTrail} {
			if e := trail.Holds(got, subject, now, trusted); e != want {
				t.Fatalf("from %d to %d, at %d: %v", from, to, now, e)
			}
		}
		last := got[len(got)-1].Subject
		others := slices.DeleteFunc([]string{"a", "b", "c", "d", "e", "f", "g", ""}, func(name string) bool { return name == last })
		if e := trail.Holds(got, subject, 145, others); e != api.ErrTrail {
			t.Fatalf("%s is not trusted: %v", last, e)
		}
	})
}

// P3: of a chain of certificates that its holders made the trail of the last one is found, and none without any one of them, or behind its time.
func TestChains(t *testing.T) {
	for n := 1; n <= 8; n++ {
		var keys []api.Key
		for i := range n {
			keys = append(keys, keyOf(t, int64(20*n+i)))
		}
		l, root := chain(t, keys), []string{nameOf(n - 1)}
		s := storeOf(t, l...)
		if got, e := s.Find("a", 150, root); e != api.OK || !sameAll(got, l) {
			t.Fatalf("of %d: %v, %v", n, told(got), e)
		}
		for now, want := range map[uint32]api.Errno{99: api.ErrTrail, 100: api.OK, 200: api.OK, 201: api.ErrTrail} {
			if _, e := s.Find("a", now, root); e != want {
				t.Errorf("of %d, at %d: %v", n, now, e)
			}
		}
		for i, c := range l {
			if e := s.Drop(c.Issuer, c.Subject); e != api.OK {
				t.Fatalf("Drop: %v", e)
			}
			if got, e := s.Find("a", 150, root); e != api.ErrTrail || len(got) > 0 {
				t.Errorf("of %d without certificate %d: %v, %v", n, i, told(got), e)
			}
			// One that is valid no longer is as good as none.
			short := c
			short.To = 140
			s.Put(resigned(t, keys[min(i+1, n-1)], short))
			for now, want := range map[uint32]api.Errno{140: api.OK, 141: api.ErrTrail} {
				if _, e := s.Find("a", now, root); e != want {
					t.Errorf("of %d, certificate %d up to 140, at %d: %v", n, i, now, e)
				}
			}
			s.Put(c)
		}
		if got, e := s.Find("a", 150, root); e != api.OK || !sameAll(got, l) {
			t.Fatalf("of %d, all put anew: %v, %v", n, told(got), e)
		}
	}
}

// Rules 4 and 5: what is handed in is not changed and not kept, what lies behind it plays no part; what is handed out is new memory.
func TestMemoryOfTheStore(t *testing.T) {
	want := chain(t, keysOf(t, 4))
	// Noughts at the end of a number stay there.
	want[0].N, want[0].E = append(slices.Clone(want[0].N), 0, 0), append(slices.Clone(want[0].E), 0)
	s := storeOf(t)
	// Once as new ones, and once in their place.
	for _, c := range slices.Concat(want, want) {
		c, cKept := keptCert(c)
		if e := s.Put(c); e != api.OK || !cKept() {
			t.Fatalf("Put changed a certificate: %v", e)
		}
		spoil([]api.Cert{c})
		wantAll(t, s, want[:len(s.All())]...)
	}
	trusted, trustedKept := kept([]string{"x", "d"}, "y")
	for range 2 {
		wantSpoilt(t, s.All(), want)
		got, e := s.Find("a", 150, trusted)
		if e != api.OK || !trustedKept() {
			t.Fatalf("Find: %v", e)
		}
		wantSpoilt(t, got, want)
		wantAll(t, s, want...)
	}
	// Behind the list's end a name is not trusted.
	if _, e := s.Find("a", 150, trusted[:1]); e != api.ErrTrail {
		t.Errorf("Find: %v", e)
	}
	if e := trail.Holds(want, "a", 150, trusted[:1]); e != api.ErrTrail {
		t.Errorf("Holds: %v", e)
	}
}

// wantSpoilt fails, if a list is not as it is wanted, or if parts of it share memory; it writes over all of it.
func wantSpoilt(t *testing.T, got, want []api.Cert) {
	t.Helper()
	if !sameAll(got, want) {
		t.Fatalf("%v, want %v", told(got), told(want))
	}
	for i := range got {
		fill(got[i].N)
		if !slices.Equal(got[i].E, want[i].E) {
			t.Fatal("N and E share memory")
		}
		fill(got[i].E)
		if !slices.Equal(got[i].Sig, want[i].Sig) {
			t.Fatal("E and Sig share memory")
		}
		spoil(got[i : i+1])
		if !sameAll(got[i+1:], want[i+1:]) {
			t.Fatal("two certificates share memory")
		}
	}
}

func TestMemoryOfHolds(t *testing.T) {
	want := chain(t, keysOf(t, 4))
	var l []api.Cert
	var asBefore []func() bool
	for _, c := range want {
		c, cKept := keptCert(c)
		l, asBefore = append(l, c), append(asBefore, cKept)
	}
	trusted, trustedKept := kept([]string{"d", "x"}, "y")
	if e := trail.Holds(l, "a", 150, trusted); e != api.OK {
		t.Errorf("Holds: %v", e)
	}
	// What lies behind the list's end is no part of it.
	if e := trail.Holds(l[:3], "a", 150, trusted); e != api.ErrTrail {
		t.Errorf("Holds: %v", e)
	}
	for _, asBefore := range append(asBefore, trustedKept) {
		if !asBefore() {
			t.Error("Holds changed what was handed in")
		}
	}
}

// Rule 8: the same calls have the same answers.
func TestTheSameAgain(t *testing.T) {
	worlds(t, 20, func(r *rand.Rand, s *trail.Store, l []api.Cert) {
		other := storeOf(t, l...)
		for range 5 {
			if !sameAll(other.All(), l) || !sameAll(s.All(), l) {
				t.Fatal("All is another list")
			}
			for i := range 6 {
				a, e := s.Find(nameOf(i), 145, []string{"a", "b", "c"})
				b, f := other.Find(nameOf(i), 145, []string{"a", "b", "c"})
				if e != f || !sameAll(a, b) {
					t.Fatalf("Find = %v, %v, and %v, %v", told(a), e, told(b), f)
				}
			}
		}
	})
}

// P1: no call panics, and each ends, at arguments of any size.
func TestAnySize(t *testing.T) {
	huge := slices.Repeat(api.Nat{1<<64 - 1, 7}, 100000)
	name := strings.Repeat("a", 1<<20)
	for _, c := range []api.Cert{
		{Issuer: "a", Subject: "a", N: huge, E: huge, Usage: 1}, {Issuer: name, Subject: name, N: huge, E: huge, Sig: []byte(name)}, {Issuer: "a", Subject: "a", Usage: 1}, {},
	} {
		s := storeOf(t, plain("a", "a", 0))
		if e := s.Put(c); e != api.ErrCert {
			t.Errorf("Put: %v", e)
		}
		if e := s.Drop(name, c.Subject); e != api.ErrNone {
			t.Errorf("Drop: %v", e)
		}
		for n := range 10 {
			if e := trail.Holds(slices.Repeat([]api.Cert{c}, n), c.Subject, 0, []string{c.Subject, name}); e != api.ErrTrail {
				t.Errorf("Holds: %v", e)
			}
		}
		if e := trail.Holds(slices.Repeat([]api.Cert{c}, 1<<16), c.Subject, 0, []string{c.Subject}); e != api.ErrTrail {
			t.Errorf("Holds: %v", e)
		}
	}
	// A key of many noughts is a key.
	k := keyOf(t, 1)
	a := signed(t, k, "a", "a", k, 1)
	a.N = append(slices.Clone(a.N), make(api.Nat, 1<<20)...)
	got, e := storeOf(t, a).Find("a", 150, slices.Repeat([]string{name, "a"}, 50))
	if e != api.OK || !sameAll(got, []api.Cert{a}) {
		t.Errorf("Find: %v", e)
	}
	if e := trail.Holds(got, "a", 150, append(slices.Repeat([]string{"", name}, 1<<16), "a")); e != api.OK {
		t.Errorf("Holds: %v", e)
	}
}
