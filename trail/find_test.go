package trail_test

import (
	"bytes"
	"math"
	"math/rand"
	"slices"
	"strings"
	"testing"

	"clepsydra/api"
	"clepsydra/trail"
)

// P9.2: Holds.

// holdsAs fails, if Holds does not answer as it is said, or not word by word.
func holdsAs(t *testing.T, what string, l []api.Cert, subject string, now uint32, trusted []string, want api.Errno) {
	t.Helper()
	if e := trail.Holds(l, subject, now, trusted); e != want || isTrail(l, subject, now, trusted, checked) != (want == api.OK) {
		t.Errorf("%s: Holds(%v, %q, %d, %q) = %v, want %v", what, told(l), subject, now, trusted, e, want)
	}
}

func TestHoldsOfEachLength(t *testing.T) {
	keys := keysOf(t, 10)
	holdsAs(t, "no certificates", nil, "a", 150, []string{"a"}, api.ErrTrail)
	holdsAs(t, "no certificates, nor a name", []api.Cert{}, "", 150, []string{""}, api.ErrTrail)
	for n := 1; n <= 10; n++ {
		want := api.OK
		if n > 8 {
			want = api.ErrTrail
		}
		l, last := chain(t, keys[:n]), nameOf(n-1)
		holdsAs(t, "a chain", l, "a", 150, []string{last}, want)
		holdsAs(t, "among other trusted ones", l, "a", 150, []string{"x", "", last, last}, want)
		for from := 1; from < n; from++ {
			want := api.OK
			if n-from > 8 {
				want = api.ErrTrail
			}
			holdsAs(t, "the chain's end", l[from:], nameOf(from), 150, []string{last}, want)
			holdsAs(t, "the chain's beginning", l[:from], "a", 150, []string{last, "a", nameOf(from)}, api.ErrTrail)
			holdsAs(t, "without one", slices.Delete(slices.Clone(l), from-1, from), "a", 150, []string{last}, api.ErrTrail)
			holdsAs(t, "without one, of the second one's name", slices.Delete(slices.Clone(l), from-1, from), "b", 150, []string{last}, map[bool]api.Errno{true: api.OK, false: api.ErrTrail}[from == 1 && n <= 9])
		}
	}
}

func TestHoldsOfNames(t *testing.T) {
	l := chain(t, keysOf(t, 3))
	for _, subject := range []string{"", "b", "c", "A", "a ", "aa", "\x00"} {
		holdsAs(t, "another name", l, subject, 150, []string{"c"}, api.ErrTrail)
	}
	for _, trusted := range [][]string{nil, {}, {""}, {"a"}, {"a", "b"}, {"C"}, {"cc", "c "}} {
		holdsAs(t, "others are trusted", l, "a", 150, trusted, api.ErrTrail)
	}
	holdsAs(t, "backwards", []api.Cert{l[2], l[1], l[0]}, "c", 150, []string{"a", "c"}, api.ErrTrail)
	holdsAs(t, "turned round", []api.Cert{l[1], l[0], l[2]}, "b", 150, []string{"c"}, api.ErrTrail)
}

func TestHoldsOfTimes(t *testing.T) {
	keys := keysOf(t, 3)
	for at := range 3 {
		l := chain(t, keys)
		l[at].From, l[at].To = 120, 180
		l[at] = resigned(t, keys[min(at+1, 2)], l[at])
		for _, c := range []struct {
			now  uint32
			want api.Errno
		}{
			{0, api.ErrTrail}, {99, api.ErrTrail}, {100, api.ErrTrail}, {119, api.ErrTrail}, {120, api.OK}, {150, api.OK}, {180, api.OK}, {181, api.ErrTrail}, {200, api.ErrTrail},
			{201, api.ErrTrail}, {math.MaxUint32, api.ErrTrail},
		} {
			holdsAs(t, "of one from 120 to 180", l, "a", c.now, []string{"c"}, c.want)
		}
	}
	l := chain(t, keys)
	for now, want := range map[uint32]api.Errno{99: api.ErrTrail, 100: api.OK, 200: api.OK, 201: api.ErrTrail} {
		holdsAs(t, "all from 100 to 200", l, "a", now, []string{"c"}, want)
	}
}

// Each certificate of a trail is made wrong in one thing, and signed anew, where that is not what is wrong.
func TestHoldsOfWrongOnes(t *testing.T) {
	keys := keysOf(t, 3)
	other := keyOf(t, 9)
	for at := range 3 {
		by := keys[min(at+1, 2)]
		for what, change := range map[string]func(c api.Cert) api.Cert{
			"another's signature": func(c api.Cert) api.Cert { return resigned(t, other, c) },
			"another issuer":      func(c api.Cert) api.Cert { c.Issuer = "x"; return resigned(t, by, c) },
			"another subject":     func(c api.Cert) api.Cert { c.Subject = "x"; return resigned(t, by, c) },
			"another time":        func(c api.Cert) api.Cert { c.From = 160; return resigned(t, by, c) },
			"no signature":        func(c api.Cert) api.Cert { c.Sig = nil; return c },
			"a spoilt signature":  func(c api.Cert) api.Cert { c.Sig = bytes.Clone(c.Sig); c.Sig[9] ^= 1; return c },
			"a spoilt serial":     func(c api.Cert) api.Cert { c.Serial++; return c },
			"a spoilt usage":      func(c api.Cert) api.Cert { c.Usage ^= 2; return c },
			"a usage below":       func(c api.Cert) api.Cert { c.Usage = -7; return c },
			"a usage above":       func(c api.Cert) api.Cert { c.Usage = 9; return c },
			"a date above":        func(c api.Cert) api.Cert { c.From, c.To = 151, 149; return c },
			"no key":              func(c api.Cert) api.Cert { c.N, c.E = nil, nil; return c },
			"nothing":             func(c api.Cert) api.Cert { return api.Cert{} },
		} {
			l := chain(t, keys)
			l[at] = change(l[at])
			holdsAs(t, what, l, "a", 150, []string{"c", "x"}, api.ErrTrail)
			holdsAs(t, what, l, "x", 150, []string{"c", "x"}, map[bool]api.Errno{true: api.OK, false: api.ErrTrail}[at == 0 && what == "another subject"])
		}
		// Another key breaks what it signed, and not what it is signed by: the first one has signed nothing.
		l := chain(t, keys)
		l[at].N, l[at].E = other.N, other.E
		l[at] = resigned(t, by, l[at])
		want := api.ErrTrail
		if at == 0 {
			want = api.OK
		}
		holdsAs(t, "another key", l, "a", 150, []string{"c"}, want)
	}
}

func TestHoldsOfLastOnes(t *testing.T) {
	keys := keysOf(t, 3)
	for usage := range 8 {
		l := chain(t, keys)
		l[2].Usage = usage
		l[2] = resigned(t, keys[2], l[2])
		want := api.ErrTrail
		if usage&api.UseTrusted != 0 {
			want = api.OK
		}
		holdsAs(t, "the last one's usage", l, "a", 150, []string{"c"}, want)
		// What the others may be used for plays no part.
		l = chain(t, keys)
		l[0].Usage, l[1].Usage = usage, 7-usage
		l[0], l[1] = resigned(t, keys[1], l[0]), resigned(t, keys[2], l[1])
		holdsAs(t, "the others' usage", l, "a", 150, []string{"c"}, api.OK)
	}
	a, b := signed(t, keys[0], "a", "a", keys[0], 1), signed(t, keys[1], "a", "b", keys[1], 1)
	holdsAs(t, "its own", []api.Cert{a}, "a", 150, []string{"a"}, api.OK)
	holdsAs(t, "its own twice", []api.Cert{a, a}, "a", 150, []string{"a"}, api.OK)
	holdsAs(t, "its own eight times", slices.Repeat([]api.Cert{a}, 8), "a", 150, []string{"a"}, api.OK)
	holdsAs(t, "its own nine times", slices.Repeat([]api.Cert{a}, 9), "a", 150, []string{"a"}, api.ErrTrail)
	holdsAs(t, "another issuer, and its own key", []api.Cert{b}, "b", 150, []string{"a", "b"}, api.ErrTrail)
	holdsAs(t, "its own, signed with another key", []api.Cert{signed(t, keys[1], "a", "a", keys[0], 1)}, "a", 150, []string{"a"}, api.ErrTrail)
	// Two that sign each other have no end.
	b, c := signed(t, keys[2], "c", "b", keys[1], 1), signed(t, keys[1], "b", "c", keys[2], 1)
	for n := range 5 {
		holdsAs(t, "a ring", slices.Repeat([]api.Cert{b, c}, n), "b", 150, []string{"b", "c"}, api.ErrTrail)
	}
	// Another holder of the name has another key.
	l := chain(t, keys[:2])
	l[1] = signed(t, keys[2], "b", "b", keys[2], 1)
	holdsAs(t, "another one of that name", l, "a", 150, []string{"b"}, api.ErrTrail)
	holdsAs(t, "it is trusted itself", l[1:], "b", 150, []string{"b"}, api.OK)
}

// P9.3: Find.

func TestFindOfEachLength(t *testing.T) {
	keys := keysOf(t, 10)
	for n := 1; n <= 10; n++ {
		l := chain(t, keys[:n])
		for seed := range int64(4) {
			mixed := slices.Clone(l)
			rand.New(rand.NewSource(seed)).Shuffle(n, func(i, j int) { mixed[i], mixed[j] = mixed[j], mixed[i] })
			s := storeOf(t, mixed...)
			for i := range n {
				want, code := l[i:], api.OK
				if n-i > 8 {
					want, code = nil, api.ErrTrail
				}
				got, e := s.Find(nameOf(i), 150, []string{nameOf(n - 1)})
				if e != code || !sameAll(got, want) {
					t.Errorf("Find of certificate %d of %d = %v, %v, want %v, %v", i, n, told(got), e, told(want), code)
				}
			}
		}
	}
}

func TestFindExample(t *testing.T) {
	keys := keysOf(t, 2)
	a, b := signed(t, keys[0], "a", "a", keys[0], api.UseTrusted), signed(t, keys[0], "a", "b", keys[1], 0)
	got, e := storeOf(t, a, b).Find("b", 150, []string{"a"})
	if e != api.OK || !sameAll(got, []api.Cert{b, a}) {
		t.Errorf("Find(b) = %v, %v", told(got), e)
	}
	a.Usage = 6
	got, e = storeOf(t, resigned(t, keys[0], a), b).Find("b", 150, []string{"a"})
	if e != api.ErrTrail || len(got) > 0 {
		t.Errorf("Find(b) = %v, %v", told(got), e)
	}
}

func TestFindNone(t *testing.T) {
	l := chain(t, keysOf(t, 3))
	full, empty := storeOf(t, l...), storeOf(t)
	for _, c := range []struct {
		s       *trail.Store
		subject string
		now     uint32
		trusted []string
	}{
		{empty, "a", 150, []string{"c"}}, {empty, "", 150, []string{""}}, {full, "", 150, []string{"c"}}, {full, "d", 150, []string{"c", "d"}}, {full, "a ", 150, []string{"c"}},
		{full, "a", 99, []string{"c"}}, {full, "a", 201, []string{"c"}}, {full, "a", 0, []string{"c"}}, {full, "a", math.MaxUint32, []string{"c"}},
		{full, "a", 150, nil}, {full, "a", 150, []string{"a", "b", ""}}, {full, "c", 150, []string{"a", "b"}}, {full, strings.Repeat("a", 1<<20), 150, []string{"c"}},
	} {
		if got, e := c.s.Find(c.subject, c.now, c.trusted); e != api.ErrTrail || len(got) > 0 {
			t.Errorf("Find(%.9q, %d, %q) = %v, %v", c.subject, c.now, c.trusted, told(got), e)
		}
	}
}

// Of several ways the shortest one is taken, of these the one whose first one stands first, then whose second one does.
func TestFindFirst(t *testing.T) {
	keys := keysOf(t, 7)
	// a comes to the root r by b, or by c; b and c each come to it by d, or by e, or at once.
	k := map[string]api.Key{"a": keys[0], "b": keys[1], "c": keys[2], "d": keys[3], "e": keys[4], "r": keys[5], "q": keys[6]}
	of := func(issuer, subject string) api.Cert {
		return signed(t, k[issuer], issuer, subject, k[subject], map[bool]int{true: 1, false: 0}[issuer == subject])
	}
	ab, ac, bd, be, cd, ce, dr, er, r, br, cr := of("b", "a"), of("c", "a"), of("d", "b"), of("e", "b"), of("d", "c"), of("e", "c"), of("r", "d"), of("r", "e"), of("r", "r"), of("r", "b"), of("r", "c")
	q, aq, eq, dq := of("q", "q"), of("q", "a"), of("q", "e"), of("q", "d")
	for i, c := range []struct{ store, want []api.Cert }{
		{[]api.Cert{ab, ac, bd, be, cd, ce, dr, er, r}, []api.Cert{ab, bd, dr, r}},
		{[]api.Cert{ac, ab, bd, be, cd, ce, dr, er, r}, []api.Cert{ac, cd, dr, r}},
		{[]api.Cert{r, er, dr, ce, cd, be, bd, ac, ab}, []api.Cert{ac, ce, er, r}},
		{[]api.Cert{r, er, dr, cd, bd, be, ab, ac}, []api.Cert{ab, bd, dr, r}},
		{[]api.Cert{ab, ac, be, bd, dr, er, r}, []api.Cert{ab, be, er, r}},
		// What stands first counts ahead of what stands behind it, wherever that stands.
		{[]api.Cert{cd, dr, r, ab, ac, be, er}, []api.Cert{ab, be, er, r}},
		{[]api.Cert{ce, ac, ab, bd, er, dr, r}, []api.Cert{ac, ce, er, r}},
		// Shorter ones count ahead of all.
		{[]api.Cert{ab, ac, bd, be, cd, ce, dr, er, r, cr}, []api.Cert{ac, cr, r}},
		{[]api.Cert{ab, ac, bd, be, cd, ce, dr, er, r, cr, br}, []api.Cert{ab, br, r}},
		{[]api.Cert{ab, ac, br, cr, r, q, aq}, []api.Cert{aq, q}},
		// Of two roots the one that is come to by the earlier way.
		{[]api.Cert{q, r, ab, bd, be, dr, eq}, []api.Cert{ab, bd, dr, r}},
		{[]api.Cert{r, q, ab, be, bd, dr, eq}, []api.Cert{ab, be, eq, q}},
		{[]api.Cert{q, dq, r, dr, bd, ab}, []api.Cert{ab, bd, dq, q}},
		{[]api.Cert{q, dr, r, dq, bd, ab}, []api.Cert{ab, bd, dr, r}},
		// The first way may end nowhere.
		{[]api.Cert{ab, bd, be, ac, ce, er, r}, []api.Cert{ab, be, er, r}},
		{[]api.Cert{ab, bd, ac, ce, er, r}, []api.Cert{ac, ce, er, r}},
	} {
		s := storeOf(t, c.store...)
		got, e := s.Find("a", 150, []string{"r", "q"})
		if e != api.OK || !sameAll(got, c.want) {
			t.Errorf("%d: Find = %v, %v, want %v", i, told(got), e, told(c.want))
		}
		findAs(t, s, "a", 150, []string{"r", "q"}, checked)
	}
}

// A certificate that was put anew keeps its place, and one that was dropped and put again is the last one.
func TestFindAfterChanges(t *testing.T) {
	keys := keysOf(t, 4)
	r := signed(t, keys[3], "r", "r", keys[3], 1)
	b, c := signed(t, keys[3], "r", "b", keys[1], 0), signed(t, keys[3], "r", "c", keys[2], 0)
	ab, ac := signed(t, keys[1], "b", "a", keys[0], 0), signed(t, keys[2], "c", "a", keys[0], 0)
	s := storeOf(t, ab, ac, b, c, r)
	find := func(want ...api.Cert) {
		t.Helper()
		got, e := s.Find("a", 150, []string{"r"})
		if !sameAll(got, want) || (e == api.OK) != (len(want) > 0) {
			t.Errorf("Find = %v, %v, want %v", told(got), e, told(want))
		}
	}
	find(ab, b, r)
	ab.From, ab.Serial = 110, 6
	ab = resigned(t, keys[1], ab)
	s.Put(ab)
	find(ab, b, r)
	s.Drop("b", "a")
	find(ac, c, r)
	s.Put(ab)
	find(ac, c, r)
	s.Drop("r", "c")
	find(ab, b, r)
	// Another key in its place breaks what was signed with the one ahead.
	b.N, b.E = keys[2].N, keys[2].E
	s.Put(resigned(t, keys[3], b))
	find()
	s.Put(c)
	find(ac, c, r)
	s.Drop("r", "r")
	find()
}

// worlds are stores by chance: some holders, whose certificates are signed by each other, some wrongly, with some keys and dates that are none of theirs.
func worlds(t *testing.T, count int, do func(r *rand.Rand, s *trail.Store, l []api.Cert)) {
	keys := keysOf(t, 6)
	r := rand.New(rand.NewSource(93))
	for range count {
		holders := 2 + r.Intn(5)
		s := storeOf(t)
		for range r.Intn(32) {
			s.Put(anyCert(t, r, keys, holders))
		}
		do(r, s, s.All())
	}
}

// anyCert is a certificate of one of some holders, by chance. About one in three is its own.
func anyCert(t *testing.T, r *rand.Rand, keys []api.Key, holders int) api.Cert {
	by, to := r.Intn(holders), r.Intn(holders)
	if r.Intn(3) == 0 {
		by = to
	}
	signer, k := keys[by], keys[to]
	switch r.Intn(8) {
	case 0:
		signer = keys[r.Intn(6)]
	case 1:
		k = keys[r.Intn(6)]
	}
	c := api.Cert{Serial: r.Uint32(), Issuer: nameOf(by), Subject: nameOf(to), From: uint32(90 + r.Intn(70)/6), To: uint32(140 + r.Intn(70)/6), N: k.N, E: k.E, Usage: r.Intn(8)}
	return resigned(t, signer, c)
}

func TestFindByChance(t *testing.T) {
	lengths := map[int]int{}
	worlds(t, 120, func(r *rand.Rand, s *trail.Store, l []api.Cert) {
		check := remembering()
		for _, now := range []uint32{95, 120, 145} {
			for i := range 6 {
				for _, trusted := range [][]string{{nameOf(r.Intn(6))}, {nameOf(r.Intn(6)), nameOf(r.Intn(6))}, {"a", "b", "c", "d", "e", "f"}, nil} {
					lengths[findAs(t, s, nameOf(i), now, trusted, check)]++
				}
			}
		}
	})
	for length := range 5 {
		if lengths[length] < 10 {
			t.Errorf("of %d certificates %d trails are met", length, lengths[length])
		}
	}
}

// A store that is full of ways, of which none has an end, is gone through in time.
func TestFindAmongMany(t *testing.T) {
	keys := keysOf(t, 6)
	s := storeOf(t)
	for i := range 6 {
		for j := range 6 {
			if i != j {
				s.Put(signed(t, keys[j], nameOf(j), nameOf(i), keys[i], 1))
			}
		}
	}
	if got, e := s.Find("a", 150, []string{"a", "b", "c", "d", "e", "f"}); e != api.ErrTrail || len(got) > 0 {
		t.Errorf("Find = %v, %v", told(got), e)
	}
	s.Put(signed(t, keys[5], "f", "f", keys[5], 1))
	got, e := s.Find("a", 150, []string{"f"})
	if e != api.OK || len(got) != 2 {
		t.Errorf("Find = %v, %v", told(got), e)
	}
}
