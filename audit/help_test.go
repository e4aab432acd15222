package audit_test

import (
	"bytes"
	"math/rand"
	"slices"
	"testing"

	"clepsydra/api"
	"clepsydra/audit"
	"clepsydra/net"
	"clepsydra/wire"
)

// sent is an event Sent, from one address to another one.
func sent(from, to uint32, b string) net.Event {
	return net.Event{Kind: net.Sent, Host: from, Peer: to, Bytes: []byte(b)}
}

// told is an event Told: a host was told the time by another one.
func told(to, by uint32, b string) net.Event {
	return net.Event{Kind: net.Told, Host: to, Peer: by, Bytes: []byte(b)}
}

// answered is an event Answered: a host answered another one's request.
func answered(by, asker uint32, b []byte) net.Event {
	return net.Event{Kind: net.Answered, Host: by, Peer: asker, Bytes: b}
}

// cookieField is a field that asks for a cookie by the key of a text.
func cookieField(text string) api.Ext { return api.Ext{Op: api.OpCookie, Value: []byte(text)} }

// request is the bytes of a request with some fields.
func request(fields ...api.Ext) []byte {
	b, e := wire.Write(api.Packet{Version: 4, Mode: api.ModeClient, Exts: fields})
	if e != api.OK {
		panic(e)
	}
	return b
}

// cookieRequest is one that asks for a cookie alone.
func cookieRequest(text string) []byte { return request(cookieField(text)) }

// matchOf is Match by looking through all that is ahead.
func matchOf(log []net.Event) [][2]int {
	var out [][2]int
	given := map[int]bool{}
	for i, e := range log {
		if e.Kind != net.Told {
			continue
		}
		at := -1
		for j, s := range log[:i] {
			if !given[j] && isAlike(s, e) {
				at = j
				break
			}
		}
		given[at] = true
		out = append(out, [2]int{i, at})
	}
	return out
}

// isAlike tells whether an event, if it is earlier, may be the match of one Told.
func isAlike(s, told net.Event) bool {
	return s.Kind == net.Sent && s.Host == told.Peer && s.Peer == told.Host && bytes.Equal(s.Bytes, told.Bytes)
}

// theftOf is the place of the first theft ahead of an event Told, or -1.
func theftOf(log []net.Event, told int, faces []audit.Face) int {
	client := log[told].Host
	face := slices.IndexFunc(faces, func(f audit.Face) bool { return f.Addr == client })
	return slices.IndexFunc(log[:told], func(a net.Event) bool {
		p, fault := wire.Read(a.Bytes)
		return a.Kind == net.Answered && a.Host == log[told].Peer && a.Peer == client && fault.Code == api.OK &&
			slices.ContainsFunc(p.Exts, func(x api.Ext) bool {
				return x.Op == api.OpCookie && (face < 0 || string(x.Value) != string(faces[face].Text))
			})
	})
}

// judgeOf is Judge by what it says.
func judgeOf(log []net.Event, faces []audit.Face) []audit.Verdict {
	var out []audit.Verdict
	for _, m := range matchOf(log) {
		v := audit.Verdict{Kind: audit.Matched, Told: m[0], At: m[1]}
		if m[1] < 0 {
			v.Kind, v.At = audit.Stolen, theftOf(log, m[0], faces)
			if v.At < 0 {
				v.Kind = audit.Forged
			}
		}
		out = append(out, v)
	}
	return out
}

// anyBytes is one of some bytes, requests and others.
func anyBytes(r *rand.Rand) []byte {
	switch r.Intn(9) {
	case 0:
		return cookieRequest([]string{"a", "b", "c", ""}[r.Intn(4)])
	case 1:
		return request(cookieField("a"), cookieField([]string{"a", "b"}[r.Intn(2)]))
	case 2:
		return request(api.Ext{Op: api.OpAssoc, Value: []byte("b")}, cookieField("b"))
	case 3:
		return request(api.Ext{Op: 1 + r.Intn(9), Resp: true, Value: []byte("a")})
	case 4:
		return append(cookieRequest("z"), 1)
	}
	return [][]byte{nil, {}, {0}, {1}, []byte("x")}[r.Intn(5)]
}

// anyLog is a log by chance: of few hosts and few bytes, so that much is alike.
func anyLog(r *rand.Rand, n int) []net.Event {
	var log []net.Event
	for range n {
		e := net.Event{Kind: r.Intn(5), Host: uint32(r.Intn(3)), Peer: uint32(r.Intn(3)), At: r.Int63n(9) - 4, Bytes: anyBytes(r)}
		if r.Intn(2) == 0 {
			e.Host, e.Peer = 1, 2
			if e.Kind == net.Told {
				e.Host, e.Peer = 2, 1
			}
		}
		log = append(log, e)
	}
	return log
}

// anyFaces are faces by chance: of few addresses, some of them more than once.
func anyFaces(r *rand.Rand) []audit.Face {
	var l []audit.Face
	for range r.Intn(5) {
		l = append(l, audit.Face{Addr: uint32(r.Intn(3)), Text: [][]byte{nil, []byte("a"), []byte("b")}[r.Intn(3)]})
	}
	return l
}

// wantMatch fails, if a log is not given these matches.
func wantMatch(t *testing.T, log []net.Event, want ...[2]int) {
	t.Helper()
	if got := audit.Match(log); !slices.Equal(got, want) {
		t.Errorf("Match(%v) = %v, want %v", log, got, want)
	}
}

// wantTheft fails, if Theft answers anything else.
func wantTheft(t *testing.T, log []net.Event, told int, faces []audit.Face, at int, want api.Errno) {
	t.Helper()
	if got, e := audit.Theft(log, told, faces); got != at || e != want {
		t.Errorf("Theft(%v, %d, %v) = %d, %v, want %d, %v", log, told, faces, got, e, at, want)
	}
}

// wantJudged fails, if a log is judged in another way.
func wantJudged(t *testing.T, log []net.Event, faces []audit.Face, want ...audit.Verdict) {
	t.Helper()
	if got := audit.Judge(log, faces); !slices.Equal(got, want) {
		t.Errorf("Judge(%v, %v) = %v, want %v", log, faces, got, want)
	}
}
