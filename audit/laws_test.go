package audit_test

import (
	"math/rand"
	"reflect"
	"slices"
	"testing"

	"clepsydra/api"
	"clepsydra/audit"
	"clepsydra/net"
)

// P19.1, P19.2: logs by chance, held against what looks through all that is ahead.
func TestLogsByChance(t *testing.T) {
	kinds := map[int]int{}
	for seed := range int64(400) {
		r := rand.New(rand.NewSource(seed))
		log, faces := anyLog(r, r.Intn(80)), anyFaces(r)
		match, verdicts := matchOf(log), judgeOf(log, faces)
		wantMatch(t, log, match...)
		wantJudged(t, log, faces, verdicts...)
		proper := !slices.ContainsFunc(match, func(m [2]int) bool { return m[1] < 0 })
		if audit.Proper(log) != proper {
			t.Errorf("Proper(%v) = %v", log, !proper)
		}
		for i, e := range log {
			if e.Kind != net.Told {
				wantTheft(t, log, i, faces, 0, api.ErrArg)
			} else if at := theftOf(log, i, faces); at < 0 {
				wantTheft(t, log, i, faces, 0, api.ErrNone)
			} else {
				wantTheft(t, log, i, faces, at, api.OK)
			}
		}
		for _, v := range verdicts {
			kinds[v.Kind]++
		}
	}
	if len(kinds) != 3 || slices.Min([]int{kinds[audit.Matched], kinds[audit.Stolen], kinds[audit.Forged]}) < 100 {
		t.Errorf("verdicts of each kind: %v", kinds)
	}
}

// P19.3: no event Sent is the match of two; each match is earlier, and alike.
func TestMatchesAreAlike(t *testing.T) {
	for seed := range int64(300) {
		log := anyLog(rand.New(rand.NewSource(seed)), 60)
		given := map[int]bool{}
		last := -1
		for _, m := range audit.Match(log) {
			told, at := m[0], m[1]
			if told <= last || log[told].Kind != net.Told {
				t.Fatalf("%d is no event Told behind %d", told, last)
			}
			last = told
			if at == -1 {
				continue
			}
			if given[at] || at >= told || !isAlike(log[at], log[told]) {
				t.Fatalf("%d is the match of %d", at, told)
			}
			given[at] = true
		}
	}
}

// P19.4: nothing that is told behind changes what was judged; with one event Sent more there are not fewer matches.
func TestMoreChangesNothingAhead(t *testing.T) {
	for seed := range int64(150) {
		r := rand.New(rand.NewSource(seed))
		log, faces := anyLog(r, 50), anyFaces(r)
		all := audit.Judge(log, faces)
		for n := range log {
			ahead := audit.Judge(log[:n], faces)
			if !slices.Equal(ahead, all[:len(ahead)]) {
				t.Fatalf("of %d events %v, of all %v", n, ahead, all)
			}
		}
		// One more, anywhere, often one that is told somewhere.
		more := log[r.Intn(len(log))]
		if more.Kind == net.Told {
			more.Host, more.Peer = more.Peer, more.Host
		}
		more.Kind = net.Sent
		longer := slices.Insert(slices.Clone(log), r.Intn(len(log)+1), more)
		if a, b := matches(log), matches(longer); b < a {
			t.Fatalf("%d matches, with one event Sent more %d", a, b)
		}
	}
}

// matches is how many events Told of a log have a match.
func matches(log []net.Event) int {
	n := 0
	for _, m := range audit.Match(log) {
		if m[1] >= 0 {
			n++
		}
	}
	return n
}

// P19.5: nobody has more matches, however they are given.
func TestMostMatches(t *testing.T) {
	for seed := range int64(300) {
		r := rand.New(rand.NewSource(seed))
		log := anyLog(r, 1+r.Intn(70))
		if got, want := matches(log), mostMatches(log); got != want {
			t.Fatalf("%d matches, there might be %d", got, want)
		}
	}
}

// mostMatches is how many events Told may have a match at most: each one that has none asks one that has what it might have to take another one.
func mostMatches(log []net.Event) int {
	holder := map[int]int{}
	var finds func(told int, asked map[int]bool) bool
	finds = func(told int, asked map[int]bool) bool {
		for i, s := range log[:told] {
			if asked[i] || !isAlike(s, log[told]) {
				continue
			}
			asked[i] = true
			other, taken := holder[i]
			if !taken || finds(other, asked) {
				holder[i] = told
				return true
			}
		}
		return false
	}
	n := 0
	for i, e := range log {
		if e.Kind == net.Told && finds(i, map[int]bool{}) {
			n++
		}
	}
	return n
}

// deep is a log in memory of its own, with others behind its end, and behind that of each of its bytes.
func deep(log []net.Event) []net.Event {
	out := slices.Clone(log)
	for i, e := range out {
		out[i].Bytes = append(slices.Clone(e.Bytes), 1, 2, 3)[:len(e.Bytes)]
	}
	return append(out, told(1, 2, "behind"), sent(2, 1, "behind"))
}

// Rules 4 and 5: what is handed in is not changed and not kept, and what lies behind it plays no part; what is handed out is new memory.
func TestMemory(t *testing.T) {
	for seed := range int64(60) {
		r := rand.New(rand.NewSource(seed))
		log, faces := anyLog(r, 40), anyFaces(r)
		log = append(log, told(1, 2, "last"))
		mine, kept := deep(log), deep(log)
		known := append(slices.Clone(faces), audit.Face{Addr: 1, Text: []byte("behind")})
		match, verdicts := matchOf(log), judgeOf(log, faces)
		for range 2 {
			got := audit.Match(mine[:len(log)])
			if !slices.Equal(got, match) {
				t.Fatalf("Match hangs on what lies behind, or was handed out: %v, want %v", got, match)
			}
			for i := range got[:cap(got)] {
				got[:cap(got)][i] = [2]int{-7, -7}
			}
			judged := audit.Judge(mine[:len(log)], known[:len(faces)])
			if !slices.Equal(judged, verdicts) {
				t.Fatalf("Judge hangs on what lies behind, or was handed out: %v, want %v", judged, verdicts)
			}
			for i := range judged[:cap(judged)] {
				judged[:cap(judged)][i] = audit.Verdict{Kind: -7}
			}
			theft, want := theftOf(log, len(log)-1, faces), api.OK
			if theft < 0 {
				theft, want = 0, api.ErrNone
			}
			wantTheft(t, mine[:len(log)], len(log)-1, known[:len(faces)], theft, want)
			audit.Proper(mine[:len(log)])
		}
		if !reflect.DeepEqual(mine, kept) {
			t.Fatal("a log was changed")
		}
		for i := range mine {
			if rest, want := mine[i].Bytes, kept[i].Bytes; i < len(log) && !slices.Equal(rest[:len(rest)+3], want[:len(want)+3]) {
				t.Fatal("what lies behind an event's bytes was changed")
			}
		}
		if !reflect.DeepEqual(known[:len(faces)], faces) && len(faces) > 0 || string(known[len(faces)].Text) != "behind" {
			t.Fatal("faces were changed")
		}
	}
}

// P1: no call panics, and each ends, at logs of any kind and length.
func TestAnyLogs(t *testing.T) {
	r := rand.New(rand.NewSource(191))
	huge := make([]byte, 1<<22)
	log := []net.Event{{Kind: 1<<63 - 1}, {Kind: -1 << 63, At: -1 << 63}, {Kind: net.Told, Bytes: huge}, {Kind: net.Sent, Bytes: huge}, {Kind: net.Told, Bytes: huge}, answered(0, 0, huge), {Kind: net.Told}}
	wantMatch(t, log, [2]int{2, -1}, [2]int{4, 3}, [2]int{6, -1})
	wantTheft(t, log, 6, []audit.Face{{Text: huge}}, 0, api.ErrNone)
	for range 200 {
		var b []byte
		for range r.Intn(120) {
			b = append(b, byte(r.Intn(256)))
		}
		log := []net.Event{answered(1, 2, b), {Kind: r.Intn(9) - 4, Bytes: b}, told(2, 1, string(b))}
		audit.Judge(log, []audit.Face{{Addr: 2, Text: b}})
		audit.Theft(log, r.Intn(6)-2, nil)
	}
}

// However long a log is, and however much of it is told and was not sent, it is judged in time.
func TestLongLog(t *testing.T) {
	const n = 200000
	var log []net.Event
	for i := range n {
		from := uint32(i % 1000)
		switch i % 3 {
		case 0:
			log = append(log, sent(from, from+1, "x"))
		case 1:
			log = append(log, answered(from, from+1, cookieRequest("thief")))
		case 2:
			log = append(log, told(from+1, from, "y"))
		}
	}
	log = append(log, told(1, 0, "x"))
	v := audit.Judge(log, []audit.Face{{Addr: 7, Text: []byte("k")}})
	if len(v) != n/3+1 || v[len(v)-1] != (audit.Verdict{Kind: audit.Matched, Told: n, At: 0}) || v[n/3-1].Kind != audit.Stolen {
		t.Errorf("%d verdicts, the last ones %v", len(v), v[len(v)-3:])
	}
}
