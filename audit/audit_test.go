package audit_test

import (
	"slices"
	"strings"
	"testing"

	"clepsydra/api"
	"clepsydra/audit"
	"clepsydra/net"
)

// P19.1: Match.
func TestMatch(t *testing.T) {
	wantMatch(t, nil)
	wantMatch(t, []net.Event{})
	wantMatch(t, []net.Event{sent(2, 1, "x"), answered(2, 1, []byte("x"))})
	wantMatch(t, []net.Event{sent(2, 1, "x"), told(1, 2, "x")}, [2]int{1, 0})
	// The example: what was sent once is told once.
	wantMatch(t, []net.Event{sent(2, 1, "x"), told(1, 2, "x"), told(1, 2, "x")}, [2]int{1, 0}, [2]int{2, -1})
	// Each the first one that none ahead of it was given.
	wantMatch(t, []net.Event{sent(2, 1, "x"), sent(2, 1, "x"), told(1, 2, "x"), sent(2, 1, "x"), told(1, 2, "x"), told(1, 2, "x"), told(1, 2, "x")}, [2]int{2, 0}, [2]int{4, 1}, [2]int{5, 3}, [2]int{6, -1})
	// One that has none takes none away from those behind.
	wantMatch(t, []net.Event{told(1, 2, "x"), sent(2, 1, "x"), told(1, 2, "x"), told(1, 2, "y"), sent(2, 1, "y"), told(1, 2, "y")}, [2]int{0, -1}, [2]int{2, 1}, [2]int{3, -1}, [2]int{5, 4})
	// Bytes without any, and nil ones, are the same.
	wantMatch(t, []net.Event{{Kind: net.Sent, Host: 2, Peer: 1}, {Kind: net.Told, Host: 1, Peer: 2, Bytes: []byte{}}}, [2]int{1, 0})
	// A host's own packets.
	wantMatch(t, []net.Event{sent(1, 1, "x"), told(1, 1, "x")}, [2]int{1, 0})
}

// What is unlike in anything is no match.
func TestNoMatch(t *testing.T) {
	for _, s := range []net.Event{
		sent(1, 2, "x"), sent(2, 2, "x"), sent(1, 1, "x"), sent(3, 1, "x"), sent(2, 3, "x"), sent(2, 1, ""), sent(2, 1, "X"), sent(2, 1, "xx"), sent(2, 1, "x\x00"), sent(2+1<<31, 1, "x"), sent(2, 1+1<<16, "x"),
		answered(2, 1, []byte("x")), {Kind: 0, Host: 2, Peer: 1, Bytes: []byte("x")}, {Kind: 4, Host: 2, Peer: 1, Bytes: []byte("x")}, {Kind: -1, Host: 2, Peer: 1, Bytes: []byte("x")}, told(2, 1, "x"),
	} {
		log := []net.Event{s, told(1, 2, "x")}
		if s.Kind == net.Told {
			wantMatch(t, log, [2]int{0, -1}, [2]int{1, -1})
			continue
		}
		wantMatch(t, log, [2]int{1, -1})
		// Beside the right one, too.
		wantMatch(t, []net.Event{s, sent(2, 1, "x"), s, told(1, 2, "x")}, [2]int{3, 1})
	}
	// What is earlier stands ahead, whatever its time.
	late, early := sent(2, 1, "x"), told(1, 2, "x")
	late.At, early.At = 9, -9
	wantMatch(t, []net.Event{late, early}, [2]int{1, 0})
	wantMatch(t, []net.Event{early, late}, [2]int{0, -1})
}

// P19.1: Theft of no place of an event Told.
func TestTheftOfNothingTold(t *testing.T) {
	log := []net.Event{answered(2, 1, cookieRequest("thief")), sent(2, 1, "x"), told(1, 2, "x"), {Kind: 0}, {Kind: 4}}
	for _, told := range []int{-1, 0, 1, 3, 4, 5, 6, 1<<63 - 1, -1 << 63} {
		wantTheft(t, log, told, nil, 0, api.ErrArg)
	}
	wantTheft(t, log, 2, nil, 0, api.OK)
	wantTheft(t, nil, 0, nil, 0, api.ErrArg)
	wantTheft(t, log[:2], 2, nil, 0, api.ErrArg)
}

func TestTheft(t *testing.T) {
	faces := []audit.Face{{Addr: 3, Text: []byte("c")}, {Addr: 1, Text: []byte("a")}, {Addr: 2, Text: []byte("b")}}
	for i, x := range []struct {
		ahead []net.Event
		at    int // -1: there is none
	}{
		{nil, -1},
		{[]net.Event{answered(2, 1, cookieRequest("thief"))}, 0},
		{[]net.Event{answered(2, 1, cookieRequest("a"))}, -1},
		{[]net.Event{answered(2, 1, cookieRequest("b"))}, 0}, {[]net.Event{answered(2, 1, cookieRequest("c"))}, 0}, {[]net.Event{answered(2, 1, cookieRequest(""))}, 0}, {[]net.Event{answered(2, 1, cookieRequest("aa"))}, 0}, {[]net.Event{answered(2, 1, cookieRequest("A"))}, 0}, {[]net.Event{answered(2, 1, cookieRequest("a\x00"))}, 0},
		// The first one, behind what is none.
		{[]net.Event{answered(2, 1, cookieRequest("a")), sent(2, 1, "x"), answered(2, 1, cookieRequest("y")), answered(2, 1, cookieRequest("z"))}, 2},
		// To and by others, or not answered.
		{[]net.Event{answered(1, 2, cookieRequest("y")), answered(3, 1, cookieRequest("y")), answered(2, 3, cookieRequest("y")), answered(1, 1, cookieRequest("y")), answered(2, 2, cookieRequest("y"))}, -1},
		{[]net.Event{sent(2, 1, string(cookieRequest("y"))), told(1, 2, string(cookieRequest("y"))), {Kind: 0, Host: 2, Peer: 1, Bytes: cookieRequest("y")}, {Kind: 4, Host: 2, Peer: 1, Bytes: cookieRequest("y")}}, -1},
		// No packet, no such field.
		{[]net.Event{answered(2, 1, nil), answered(2, 1, []byte("y")), answered(2, 1, cookieRequest("y")[:60]), answered(2, 1, append(cookieRequest("y"), 7))}, -1},
		{[]net.Event{answered(2, 1, request()), answered(2, 1, request(api.Ext{Op: api.OpAssoc, Value: []byte("y")}, api.Ext{Op: api.OpIff}, api.Ext{Op: api.OpBound, Value: []byte("y")}))}, -1},
		// Any field of a packet.
		{[]net.Event{answered(2, 1, request(cookieField("a"), cookieField("y")))}, 0}, {[]net.Event{answered(2, 1, request(cookieField("y"), cookieField("a")))}, 0}, {[]net.Event{answered(2, 1, request(cookieField("a"), cookieField("a")))}, -1},
		{[]net.Event{answered(2, 1, request(api.Ext{Op: api.OpCert, Value: []byte("a")}, api.Ext{Op: api.OpCookie, Resp: true, Bad: true, Assoc: 7, TS: 3, Value: []byte("y"), Sig: []byte("a")}))}, 0},
	} {
		log := append(slices.Clone(x.ahead), told(1, 2, "t"), answered(2, 1, cookieRequest("late")))
		want := api.OK
		if x.at < 0 {
			want = api.ErrNone
		}
		t.Log(i)
		wantTheft(t, log, len(x.ahead), faces, max(x.at, 0), want)
	}
}

// Of an address without a face no Value is its text; of several the first counts.
func TestFaces(t *testing.T) {
	log := func(text string) []net.Event {
		return []net.Event{told(1, 2, ""), answered(2, 1, cookieRequest(text)), told(1, 2, "")}
	}
	for _, x := range []struct {
		faces []audit.Face
		text  string
		stole bool
	}{
		{nil, "", true}, {nil, "a", true}, {[]audit.Face{}, "", true}, {[]audit.Face{{Addr: 2, Text: []byte("a")}}, "a", true}, {[]audit.Face{{Addr: 0, Text: []byte("a")}}, "a", true}, {[]audit.Face{{Addr: 1 + 1<<31, Text: []byte("a")}}, "a", true},
		{[]audit.Face{{Addr: 1}}, "", false}, {[]audit.Face{{Addr: 1, Text: []byte{}}}, "", false}, {[]audit.Face{{Addr: 1}}, "a", true}, {[]audit.Face{{Addr: 1, Text: []byte("a")}}, "", true},
		{[]audit.Face{{Addr: 1, Text: []byte("a")}, {Addr: 1, Text: []byte("b")}}, "a", false}, {[]audit.Face{{Addr: 1, Text: []byte("a")}, {Addr: 1, Text: []byte("b")}}, "b", true}, {[]audit.Face{{Addr: 1}, {Addr: 1, Text: []byte("b")}}, "b", true}, {[]audit.Face{{Addr: 1}, {Addr: 1, Text: []byte("b")}}, "", false},
		{[]audit.Face{{Addr: 2, Text: []byte("b")}, {Addr: 1, Text: []byte("a")}}, "a", false}, {[]audit.Face{{Addr: 1, Text: []byte(strings.Repeat("k", 2048))}}, strings.Repeat("k", 2048), false}, {[]audit.Face{{Addr: 1, Text: []byte(strings.Repeat("k", 2049))}}, strings.Repeat("k", 2048), true},
	} {
		log := log(x.text)
		forged := audit.Verdict{Kind: audit.Forged, Told: 0, At: -1}
		wantTheft(t, log, 0, x.faces, 0, api.ErrNone)
		if x.stole {
			wantTheft(t, log, 2, x.faces, 1, api.OK)
			wantJudged(t, log, x.faces, forged, audit.Verdict{Kind: audit.Stolen, Told: 2, At: 1})
		} else {
			wantTheft(t, log, 2, x.faces, 0, api.ErrNone)
			wantJudged(t, log, x.faces, forged, audit.Verdict{Kind: audit.Forged, Told: 2, At: -1})
		}
	}
}

// P19.2: Judge: a match counts ahead of a theft, and a theft ahead of none.
func TestJudge(t *testing.T) {
	wantJudged(t, nil, nil)
	wantJudged(t, []net.Event{sent(2, 1, "x"), answered(2, 1, cookieRequest("y"))}, nil)
	// The example.
	wantJudged(t, []net.Event{sent(2, 1, "x"), told(1, 2, "x"), told(1, 2, "x")}, nil, audit.Verdict{Kind: audit.Matched, Told: 1, At: 0}, audit.Verdict{Kind: audit.Forged, Told: 2, At: -1})
	log := []net.Event{
		told(1, 2, "x"), sent(2, 1, "x"), answered(2, 1, cookieRequest("y")), told(1, 2, "x"), answered(2, 1, cookieRequest("z")), told(1, 2, "x"),
		told(2, 1, "x"), told(1, 3, "x"), answered(3, 1, cookieRequest("a")), told(1, 3, "x"), answered(3, 1, cookieRequest("b")), told(1, 3, "x"), sent(3, 1, "q"), told(1, 3, "q"),
	}
	wantJudged(t, log, []audit.Face{{Addr: 1, Text: []byte("a")}},
		audit.Verdict{Kind: audit.Forged, Told: 0, At: -1}, audit.Verdict{Kind: audit.Matched, Told: 3, At: 1}, audit.Verdict{Kind: audit.Stolen, Told: 5, At: 2},
		audit.Verdict{Kind: audit.Forged, Told: 6, At: -1}, audit.Verdict{Kind: audit.Forged, Told: 7, At: -1}, audit.Verdict{Kind: audit.Forged, Told: 9, At: -1}, audit.Verdict{Kind: audit.Stolen, Told: 11, At: 10}, audit.Verdict{Kind: audit.Matched, Told: 13, At: 12},
	)
}

// P19.2: Proper.
func TestProper(t *testing.T) {
	for _, x := range []struct {
		log  []net.Event
		want bool
	}{
		{nil, true}, {[]net.Event{}, true}, {[]net.Event{sent(2, 1, "x"), answered(2, 1, nil), {}}, true},
		{[]net.Event{sent(2, 1, "x"), told(1, 2, "x")}, true}, {[]net.Event{told(1, 2, "x"), sent(2, 1, "x")}, false}, {[]net.Event{told(1, 2, "x")}, false},
		{[]net.Event{sent(2, 1, "x"), told(1, 2, "x"), told(1, 2, "x")}, false}, {[]net.Event{told(1, 2, "x"), sent(2, 1, "x"), told(1, 2, "x")}, false}, {[]net.Event{sent(2, 1, "x"), sent(2, 1, "x"), told(1, 2, "x"), told(1, 2, "x")}, true},
		// A theft proves nothing.
		{[]net.Event{answered(2, 1, cookieRequest("y")), told(1, 2, "x")}, false},
	} {
		if got := audit.Proper(x.log); got != x.want {
			t.Errorf("Proper(%v) = %v", x.log, got)
		}
	}
}
