package trail_test

import (
	"bytes"
	"math/rand"
	"slices"
	"testing"

	"clepsydra/api"
	"clepsydra/cert"
	"clepsydra/pkey"
	"clepsydra/trail"
)

// drawn is as many bytes as are said, the same ones in each run.
func drawn(seed int64, n int) []byte {
	b := make([]byte, n)
	rand.New(rand.NewSource(seed)).Read(b)
	return b
}

// keyOf is a key of two primes, the same one for the same seed.
func keyOf(t *testing.T, seed int64) api.Key {
	t.Helper()
	k, _, e := pkey.Draw(drawn(seed, 20000), 216, 65537)
	if e != api.OK {
		t.Fatalf("no key: %v", e)
	}
	return k
}

// keysOf are as many unlike keys as are said.
func keysOf(t *testing.T, n int) []api.Key {
	t.Helper()
	var l []api.Key
	for i := range n {
		l = append(l, keyOf(t, int64(i)))
	}
	return l
}

// signed is a certificate of a subject's key, signed with another one, valid from 100 to 200.
func signed(t *testing.T, by api.Key, issuer, subject string, k api.Key, usage int) api.Cert {
	t.Helper()
	return resigned(t, by, api.Cert{Serial: 5, Issuer: issuer, Subject: subject, From: 100, To: 200, N: k.N, E: k.E, Usage: usage})
}

// resigned is a certificate with a new signature.
func resigned(t *testing.T, by api.Key, c api.Cert) api.Cert {
	t.Helper()
	c, e := cert.Sign(by, c)
	if e != api.OK {
		t.Fatalf("Sign: %v", e)
	}
	return c
}

// nameOf is a holder's name.
func nameOf(i int) string { return string(rune('a' + i)) }

// chain is a trail of as many certificates as there are keys: that of the first key's holder, a, is signed by the second one, and so on; the last one has signed its own.
func chain(t *testing.T, keys []api.Key) []api.Cert {
	t.Helper()
	var l []api.Cert
	last := len(keys) - 1
	for i := range last {
		l = append(l, signed(t, keys[i+1], nameOf(i+1), nameOf(i), keys[i], 0))
	}
	return append(l, signed(t, keys[last], nameOf(last), nameOf(last), keys[last], api.UseTrusted))
}

// storeOf is a store of just some certificates, in their order.
func storeOf(t *testing.T, l ...api.Cert) *trail.Store {
	t.Helper()
	s, e := trail.New(api.MaxCerts)
	if e != api.OK {
		t.Fatalf("New: %v", e)
	}
	for _, c := range l {
		if e := s.Put(c); e != api.OK {
			t.Fatalf("Put(%s, %s): %v", c.Issuer, c.Subject, e)
		}
	}
	return s
}

// same tells whether two certificates have the same in each field, and the same limbs.
func same(a, b api.Cert) bool {
	return a.Serial == b.Serial && a.Issuer == b.Issuer && a.Subject == b.Subject && a.From == b.From && a.To == b.To && a.Usage == b.Usage &&
		slices.Equal(a.N, b.N) && slices.Equal(a.E, b.E) && bytes.Equal(a.Sig, b.Sig)
}

// sameAll tells the same of two lists.
func sameAll(a, b []api.Cert) bool { return slices.EqualFunc(a, b, same) }

// wantAll fails, if a store has not just some certificates, in their order.
func wantAll(t *testing.T, s *trail.Store, want ...api.Cert) {
	t.Helper()
	if got := s.All(); !sameAll(got, want) {
		t.Fatalf("All = %v, want %v", told(got), told(want))
	}
}

// told is a list in short: of each certificate Issuer, Subject and Serial.
func told(l []api.Cert) []any {
	var out []any
	for _, c := range l {
		out = append(out, c.Issuer+">"+c.Subject, c.Serial)
	}
	return out
}

// checked tells whether a certificate is checked with a key.
func checked(k api.Key, c api.Cert) bool { return cert.Check(k, c) == api.OK }

// isTrail tells whether certificates are a trail, word by word.
func isTrail(l []api.Cert, subject string, now uint32, trusted []string, check func(k api.Key, c api.Cert) bool) bool {
	if len(l) == 0 || len(l) > 8 {
		return false
	}
	if l[0].Subject != subject {
		return false
	}
	for i := 0; i+1 < len(l); i++ {
		if l[i+1].Subject != l[i].Issuer || !check(cert.Key(l[i+1]), l[i]) {
			return false
		}
	}
	last := l[len(l)-1]
	if last.Issuer != last.Subject || !check(cert.Key(last), last) || last.Usage%2 != 1 {
		return false
	}
	for _, c := range l {
		if cert.Valid(c, now) != api.OK {
			return false
		}
	}
	for _, name := range trusted {
		if name == last.Subject {
			return true
		}
	}
	return false
}

// found is the shortest trail, the first one of several, word by word: all rows of unlike certificates are tried, shorter ones first, each in the order of the list; nil, if there is none. A row that does not fit is not gone on with.
func found(l []api.Cert, subject string, now uint32, trusted []string, check func(k api.Key, c api.Cert) bool) []api.Cert {
	for length := 1; length <= 8; length++ {
		if row := foundOf(l, nil, length, subject, now, trusted, check); row != nil {
			return row
		}
	}
	return nil
}

// foundOf is the first trail of some length that begins with some certificates.
func foundOf(l, row []api.Cert, length int, subject string, now uint32, trusted []string, check func(k api.Key, c api.Cert) bool) []api.Cert {
	if len(row) == length {
		if isTrail(row, subject, now, trusted, check) {
			return row
		}
		return nil
	}
	for _, c := range l {
		if slices.ContainsFunc(row, func(d api.Cert) bool { return same(c, d) }) || len(row) == 0 && c.Subject != subject {
			continue
		}
		if len(row) > 0 && (c.Subject != row[len(row)-1].Issuer || !check(cert.Key(c), row[len(row)-1])) {
			continue
		}
		if out := foundOf(l, append(slices.Clone(row), c), length, subject, now, trusted, check); out != nil {
			return out
		}
	}
	return nil
}

// remembering is checked, asked but once of the same key and signature.
func remembering() func(k api.Key, c api.Cert) bool {
	type pair struct {
		lowest uint64
		sig    string
	}
	known := map[pair]bool{}
	return func(k api.Key, c api.Cert) bool {
		of := pair{k.N[0], string(c.Sig)}
		if _, there := known[of]; !there {
			known[of] = checked(k, c)
		}
		return known[of]
	}
}

// findAs fails, if Find does not answer word by word, or finds what does not hold (P9.4). It tells how many certificates the trail has.
func findAs(t *testing.T, s *trail.Store, subject string, now uint32, trusted []string, check func(k api.Key, c api.Cert) bool) int {
	t.Helper()
	want := found(s.All(), subject, now, trusted, check)
	code := api.OK
	if want == nil {
		code = api.ErrTrail
	}
	got, e := s.Find(subject, now, trusted)
	if e != code || !sameAll(got, want) {
		t.Fatalf("Find(%q, %d, %q) of %v = %v, %v, want %v, %v", subject, now, trusted, told(s.All()), told(got), e, told(want), code)
	}
	if e := trail.Holds(got, subject, now, trusted); e != code {
		t.Fatalf("Holds of what is found, %v: %v", told(got), e)
	}
	return len(got)
}

// kept is a copy of a list, with others behind its end, and what tells whether all of it is as it was.
func kept[T uint64 | byte | string](l []T, more ...T) ([]T, func() bool) {
	whole := slices.Concat(l, more)
	before := slices.Clone(whole)
	return whole[:len(l)], func() bool { return slices.Equal(whole, before) }
}

// keptCert is the same of a certificate.
func keptCert(c api.Cert) (api.Cert, func() bool) {
	n, nKept := kept(c.N, 5, 255, 6)
	e, eKept := kept(c.E, 3, 3)
	sig, sigKept := kept(c.Sig, 9, 8, 7)
	c.N, c.E, c.Sig = n, e, sig
	return c, func() bool { return nKept() && eKept() && sigKept() }
}

// spoil writes over all memory of certificates.
func spoil(l []api.Cert) {
	for i := range l {
		fill(l[i].N)
		fill(l[i].E)
		fill(l[i].Sig)
		l[i] = api.Cert{Issuer: "spoilt"}
	}
}

// fill writes over all of a list's memory.
func fill[T uint64 | byte](l []T) {
	for i := range l[:cap(l)] {
		l[:cap(l)][i] = 0x5c
	}
}
