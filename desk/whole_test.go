package desk_test

import (
	"bytes"
	"crypto/sha256"
	"encoding/binary"
	"math/rand"
	"slices"
	"strings"
	"testing"

	"clepsydra/api"
	"clepsydra/audit"
	"clepsydra/host"
	"clepsydra/keys"
	"clepsydra/net"
	"clepsydra/pkey"
)

// P20.3: choose is asked as the host's clock shows: of two servers the one over shorter ways counts more, and less so as time goes on.
func TestChooseAsTheClockShows(t *testing.T) {
	p := begun(t, 3, true)
	for b, ways := range [][2]int64{{1 << 24, 1<<24 - 1<<18}, {1 << 20, 1 << 19}} {
		p.upTo(t, 2, b)
		p.must(t, net.Step{Kind: net.Tick, N: 1 << 32})
		p.must(t, net.Step{Kind: net.Poll, A: 2, B: b})
		p.must(t, net.Step{Kind: net.Tick, N: ways[0]})
		p.must(t, net.Step{Kind: net.Deliver})
		p.must(t, net.Step{Kind: net.Tick, N: ways[1]})
		p.must(t, net.Step{Kind: net.Deliver})
	}
	p.look("choose", 2)
	first := p.told[len(p.told)-1]
	p.must(t, net.Step{Kind: net.Tick, N: 1 << 40})
	p.look("choose", 2)
	if later := p.told[len(p.told)-1]; later == first || !strings.HasPrefix(later, "ok ") || !strings.HasPrefix(first, "ok ") {
		t.Fatalf("choose: %q, later %q", first, later)
	}
	p.wantTold(t)
}

// P7: where nobody puts packets of their own on their way each answer that tells the time was sent by whom it says, and tells it once, whatever else is done.
func TestNobodyElseTellsIt(t *testing.T) {
	told := 0
	for seed := range int64(12) {
		r := rand.New(rand.NewSource(seed))
		p := begun(t, 3, seed%2 == 0)
		for i := range 3 {
			p.do(net.Step{Kind: net.Call, A: i, B: (i + 1) % 3})
		}
		for len(p.script) < 900 {
			if s := anyStep(r, p); s.Kind != net.Inject {
				p.do(s)
			}
		}
		log := p.world.Log()
		if !audit.Proper(log) {
			t.Fatalf("seed %d: somebody else has told the time", seed)
		}
		for _, v := range audit.Judge(log, p.faces) {
			told++
			if v.Kind != audit.Matched || !bytes.Equal(log[v.At].Bytes, log[v.Told].Bytes) {
				t.Fatalf("seed %d: %+v", seed, v)
			}
		}
		p.look("judge", 0)
		p.wantTold(t)
	}
	if told < 30 {
		t.Errorf("the time was told just %d times", told)
	}
}

// cookieOf is the cookie that host 0 has for host 1, by its seed.
func cookieOf(bound bool) uint32 {
	if bound {
		sum := sha256.Sum256(textOf(1))
		return keys.Bound(2, 1, 0, sum[:16])
	}
	return keys.Cookie(2, 1, 0)
}

// P7: whatever anybody does, an answer that was not sent was put on its way by somebody: here he knows the seeds, and answers ahead of the hosts, or says the same once more.
func TestPutOnItsWayBySomebody(t *testing.T) {
	kinds := map[int]int{}
	for seed := range int64(12) {
		r := rand.New(rand.NewSource(seed))
		p := begun(t, 2, seed%2 == 0)
		p.upTo(t, 1, 0)
		put := map[string]int{}
		for len(p.script) < 600 {
			s := anyStep(r, p)
			if s.Kind == net.Poll && r.Intn(2) == 0 {
				s.A, s.B = 1, 0
			}
			if s.Kind == net.Inject {
				s = forged(t, r, p)
				put[string(s.Bytes)]++
			}
			p.do(s)
		}
		log := p.world.Log()
		for _, v := range audit.Judge(log, p.faces) {
			kinds[v.Kind]++
			if b := string(log[v.Told].Bytes); v.Kind != audit.Matched {
				if put[b]--; put[b] < 0 {
					t.Fatalf("seed %d: %+v was put on its way by nobody", seed, v)
				}
			}
		}
		p.look("judge", 0)
		p.wantTold(t)
	}
	if kinds[audit.Matched] < 10 || kinds[audit.Forged] < 10 || kinds[audit.Stolen] > 0 {
		t.Errorf("verdicts: %v", kinds)
	}
}

// forged is a step that puts an answer of host 0 to the last request of host 1 on its way, of another time; or what is on its way once more.
func forged(t *testing.T, r *rand.Rand, p *play) net.Step {
	t.Helper()
	s := net.Step{Kind: net.Inject, From: 1, To: 2}
	log := p.world.Log()
	for i := len(log) - 1; i >= 0; i-- {
		if log[i].Kind == net.Sent && log[i].Host == 2 && log[i].Peer == 1 {
			x := read(t, log[i].Bytes)
			s.Bytes = sealed(t, api.Packet{Version: 4, Mode: api.ModeServer, Stratum: 1, Org: x.Xmt, Rec: x.Xmt + 7, Xmt: x.Xmt + 7}, 1, 2, x.Mac.Key, cookieOf(p.bound))
			break
		}
	}
	if m := p.world.Mail(); len(m) > 0 && r.Intn(3) == 0 {
		x := m[r.Intn(len(m))]
		s.From, s.To, s.Bytes = x.From, x.To, x.Bytes
	}
	return s
}

// theft is a play in which somebody asks host 0 for the cookie of host 1 by a key of his own, and answers a request of the time by it; where in the log he was answered, and what comes of his answer.
func theft(t *testing.T, bound bool) (*play, int, host.Heard, api.Errno) {
	t.Helper()
	p := begun(t, 2, bound)
	p.upTo(t, 1, 0)
	p.round(t, 1, 0)
	// A key that no host has.
	thief, e := pkey.Make(natOf(mersenne(127)), natOf(mersenne(107)), 5)
	if e != api.OK {
		t.Fatalf("Make: %v", e)
	}
	asks := api.Packet{Version: 4, Mode: api.ModeClient, Exts: []api.Ext{{Op: api.OpCookie, Value: textBy(107, 5)}}}
	p.must(t, net.Step{Kind: net.Inject, From: 2, To: 1, Bytes: sealed(t, asks, 2, 1, 5, 0)})
	at := len(p.world.Log())
	answer := p.must(t, net.Step{Kind: net.Deliver})
	cookie, e := pkey.Decrypt(thief, read(t, answer.Out).Exts[0].Value)
	if e != api.OK || len(cookie) != 4 {
		t.Fatalf("Decrypt = %x, %v", cookie, e)
	}
	p.must(t, net.Step{Kind: net.Drop})
	p.must(t, net.Step{Kind: net.Tick, N: 1 << 32})
	p.must(t, net.Step{Kind: net.Poll, A: 1})
	request := read(t, p.last().Bytes)
	later := request.Xmt + 1<<36
	lie := api.Packet{Version: 4, Mode: api.ModeServer, Stratum: 1, Org: request.Xmt, Rec: later, Xmt: later}
	p.must(t, net.Step{Kind: net.Inject, From: 1, To: 2, Bytes: sealed(t, lie, 1, 2, request.Mac.Key, binary.BigEndian.Uint32(cookie))})
	heard, e := p.do(net.Step{Kind: net.Deliver, A: 1})
	return p, at, heard, e
}

// P7: where cookies are not bound there is a known theft, and the log shows it.
func TestTheft(t *testing.T) {
	p, at, heard, e := theft(t, false)
	if e != api.OK || heard.What != host.Told || heard.Sample.Offset != 1<<36 {
		t.Fatalf("a theft: %+v, %v", heard, e)
	}
	log := p.world.Log()
	want := audit.Verdict{Kind: audit.Stolen, Told: len(log) - 1, At: at}
	v := audit.Judge(log, p.faces)
	if len(v) != 2 || v[0].Kind != audit.Matched || v[1] != want || audit.Proper(log) {
		t.Errorf("Judge = %+v, want %+v behind one that matches", v, want)
	}
	if got, e := audit.Theft(log, len(log)-1, p.faces); got != at || e != api.OK {
		t.Errorf("Theft = %d, %v, want %d", got, e, at)
	}
	// Of the host's own request for its cookie alone there is none.
	own := slices.Delete(slices.Clone(log), at, at+1)
	if got, e := audit.Theft(own, len(own)-1, p.faces); got != 0 || e != api.ErrNone {
		t.Errorf("Theft = %d, %v", got, e)
	}
	// By a key's text that is not known it counts as one.
	if got, e := audit.Theft(own, len(own)-1, p.faces[:1]); e != api.OK || own[got].Kind != net.Answered {
		t.Errorf("Theft = %d, %v", got, e)
	}
	p.look("judge", 0)
	p.look("choose", 1)
	p.wantTold(t)
}

// P7: where they are bound it comes to nothing.
func TestTheftOfBound(t *testing.T) {
	p, _, heard, e := theft(t, true)
	if e != api.ErrMac || heard.What != 0 || !audit.Proper(p.world.Log()) {
		t.Fatalf("a theft of a bound cookie: %+v, %v", heard, e)
	}
	p.look("judge", 0)
	p.wantTold(t)
}
