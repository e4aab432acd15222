package host_test

import (
	"bytes"
	"math/rand"
	"reflect"
	"slices"
	"testing"

	"clepsydra/api"
	"clepsydra/host"
	"clepsydra/nat"
	"clepsydra/trail"
)

// P17.7: a host that was told the time by an association had all bits of it, and a trail of its server's name.
func TestToldWithAllBits(t *testing.T) {
	for seed := range int64(30) {
		r := rand.New(rand.NewSource(seed))
		p := begun(t, config(r.Intn(4), seed%2 == 0), config(4+r.Intn(4), seed%2 == 0))
		told := 0
		for range 60 {
			request := p.ask(t)
			answer := p.reply(t, request)
			ahead := p.client.Peers()[0]
			switch r.Intn(5) {
			case 0:
				continue
			case 1:
				answer[r.Intn(len(answer))] ^= 1 << r.Intn(8)
			case 2:
				p.server.Restart(r.Uint32() % 2)
			}
			heard, _ := p.client.Receive(p.serverIs.Addr, answer, p.now, nil)
			if heard.What != host.Told {
				continue
			}
			told++
			if ahead.Bits != 15 || !ahead.Waits {
				t.Fatalf("the time was told to %+v", ahead)
			}
			s, _ := trail.New(api.MaxCerts)
			for _, c := range p.client.Certs() {
				s.Put(c)
			}
			if _, e := s.Find(p.serverIs.Name, uint32(p.now>>32), []string{"h0"}); e != api.OK {
				t.Fatalf("the time was told without a trail: %v", e)
			}
		}
		if told == 0 {
			t.Errorf("seed %d: the time was never told", seed)
		}
	}
}

// A packet that is spoilt in one bit tells nothing: what was asked for is not heard, and the time is not told for a request that is spoilt.
func TestSpoiltInOneBit(t *testing.T) {
	for _, bound := range []bool{false, true} {
		for _, bits := range []int{0, 1, 3, 7, 15} {
			p := plain(t, bound).upTo(t, bits)
			request := p.ask(t)
			answer := p.reply(t, request)
			before := stateOf(p.client)
			for i := range 8 * len(answer) {
				answer[i/8] ^= 1 << (i % 8)
				if heard, e := p.client.Receive(addr(0), answer, p.now, drawn(1, 64)); e == api.OK || heard.What != 0 {
					t.Fatalf("bit %d is spoilt: %+v", i, heard)
				}
				answer[i/8] ^= 1 << (i % 8)
			}
			wantSame(t, p.client, before)
			for i := range 8 * len(request) {
				request[i/8] ^= 1 << (i % 8)
				heard, e := p.server.Receive(addr(1), request, p.now, drawn(1, 64))
				if e == api.OK && bits != 15 {
					t.Fatalf("bit %d of a request is spoilt: %+v", i, heard)
				}
				if e == api.OK && len(read(t, heard.Out).Mac.Sum) != 0 {
					t.Fatalf("bit %d of a request is spoilt: it is told the time", i)
				}
				request[i/8] ^= 1 << (i % 8)
			}
			if heard := p.hear(t, answer); heard.What != host.Advanced && heard.What != host.Told {
				t.Fatalf("what was not spoilt: %+v", heard)
			}
		}
	}
}

// What was not asked for tells nothing: an answer to another host, to an earlier request, or to one that was answered.
func TestNotAskedFor(t *testing.T) {
	p := plain(t, false).upTo(t, 15)
	old := p.reply(t, p.ask(t))
	request := p.ask(t)
	right := p.reply(t, request)
	wantRefused(t, p.client, addr(0), old, p.now, nil, api.ErrOld)
	other := begun(t, config(2, false), config(0, false)).upTo(t, 15)
	other.now = p.now - second
	theirs := other.reply(t, other.ask(t))
	wantRefused(t, p.client, addr(0), theirs, p.now, nil, api.ErrMac)
	// Sent back as it was asked, or handed to who answered.
	if heard, e := p.client.Receive(addr(0), request, p.now, nil); e != api.OK || heard.What != host.Answered {
		t.Fatalf("a request that comes back: %+v, %v", heard, e)
	}
	wantRefused(t, p.server, addr(1), right, p.now, nil, api.ErrPeer)
	if heard := p.hear(t, right); heard.What != host.Told {
		t.Fatalf("the right one: %+v", heard)
	}
	wantRefused(t, p.client, addr(0), right, p.now, nil, api.ErrOld)
}

// P17.8: two hosts that are configured for each other come to the time in as many requests as the trail has certificates, and four.
func TestComesToTheTime(t *testing.T) {
	for last := range api.MaxTrail {
		for own := range last + 2 {
			for _, bound := range []bool{false, true} {
				client := config(9, bound)
				client.Certs = certs(last)[:own]
				p := begun(t, client, config(last, bound))
				requests := 1
				for p.round(t).What != host.Told {
					requests++
					if requests > 40 {
						t.Fatalf("no time of h%d", last)
					}
				}
				if requests > last+1+4 || own == 0 && requests != last+1+4 {
					t.Errorf("the time of h%d came in %d requests", last, requests)
				}
				if own > 0 && requests != max(last+1-own, 1)+4 {
					t.Errorf("with %d certificates the time of h%d came in %d requests", own, last, requests)
				}
			}
		}
	}
	// A trail of nine is none.
	p := begun(t, config(9, false), config(8, false))
	for range 30 {
		if p.round(t).What == host.Told {
			t.Fatalf("the time was told by a trail of nine")
		}
	}
}

// P17.9: behind a restart of the server its answer to the time is a no, or comes by the same cookie, and three requests later it tells the time again (where it was no).
func TestServerRestarts(t *testing.T) {
	for seed := range uint32(40) {
		p := plain(t, seed%2 == 0).upTo(t, 15)
		before := cookieOf(p.serverIs, p.clientIs)
		p.serverIs.Seed += seed / 2
		if e := p.server.Restart(p.serverIs.Seed); e != api.OK {
			t.Fatalf("Restart: %v", e)
		}
		heard := p.round(t)
		if cookieOf(p.serverIs, p.clientIs) == before {
			if heard.What != host.Told {
				t.Fatalf("by the same cookie: %+v", heard)
			}
			continue
		}
		if heard.What != host.Rejected {
			t.Fatalf("by another cookie: %+v", heard)
		}
		for i, want := range []int{host.Advanced, host.Told, host.Told} {
			if heard := p.round(t); heard.What != want {
				t.Fatalf("request %d behind a no: %+v", i+1, heard)
			}
		}
	}
}

// anyCall is a call by chance at one of two hosts that ask each other: what came from somewhere is handed in, often spoilt, cut or to the wrong one.
func anyCall(r *rand.Rand, at int, now uint64, seen [][]byte) func(h *host.Host) (any, api.Errno) {
	from, draws := addr(r.Intn(3)), drawn(r.Int63(), r.Intn(80))
	if r.Intn(8) > 0 {
		from = addr(1 - at)
	}
	switch r.Intn(12) {
	case 0:
		called := []string{"h0", "h1", "", "h 1"}[r.Intn(4)]
		return func(h *host.Host) (any, api.Errno) { return nil, h.Call(from, called, now) }
	case 1:
		return func(h *host.Host) (any, api.Errno) { return h.Choose(now) }
	case 2, 3, 4:
		now -= uint64(r.Intn(2)) * second
		return func(h *host.Host) (any, api.Errno) { return h.Poll(from, now, draws) }
	}
	var b []byte
	if len(seen) > 0 {
		b = slices.Clone(seen[max(len(seen)-1-r.Intn(3), 0)])
	}
	if len(b) > 0 && r.Intn(5) == 0 {
		b[r.Intn(len(b))] ^= 1 << r.Intn(8)
	}
	if r.Intn(9) == 0 {
		b = b[:r.Intn(len(b)+1)]
	}
	return func(h *host.Host) (any, api.Errno) { return h.Receive(from, b, now, draws) }
}

// P17.10: what is refused changes nothing: two hosts go the same way as two others, though these are handed all that they refuse, and those are not.
func TestRefusedChangesNothing(t *testing.T) {
	refused, told := 0, 0
	for seed := range int64(20) {
		r := rand.New(rand.NewSource(seed))
		var quiet, loud []*host.Host
		for i := range 2 {
			c := config(i, seed%2 == 0)
			quiet, loud = append(quiet, made(t, c)), append(loud, made(t, c))
		}
		var seen [][]byte
		for step := range 1000 {
			i, now := r.Intn(2), begin+uint64(step)*second/2
			call := anyCall(r, i, now, seen)
			before := stateOf(loud[i])
			got, e := call(loud[i])
			if e != api.OK {
				refused++
				wantSame(t, loud[i], before)
				continue
			}
			want, err := call(quiet[i])
			if err != api.OK || !reflect.DeepEqual(got, want) {
				t.Fatalf("seed %d: %+v, but %+v, %v without what was refused", seed, got, want, err)
			}
			wantSame(t, loud[i], stateOf(quiet[i]))
			switch x := got.(type) {
			case []byte:
				seen = append(seen, x)
			case host.Heard:
				if x.What == host.Told {
					told++
				}
				if len(x.Out) > 0 {
					seen = append(seen, x.Out)
				}
			}
		}
	}
	if refused < 2000 || told < 20 {
		t.Errorf("%d were refused, the time was told %d times", refused, told)
	}
}

// Rules 4 and 5: what is handed in is not changed and not kept, what lies behind it plays no part; what is handed out is new memory.

// keptConfig is a copy of a configuration with something behind each list's end, and what tells whether all of it is as it was, and what writes over it.
func keptConfig(c host.Config) (out host.Config, same func() bool, spoil func()) {
	var checks []func() bool
	var lists [][]uint64
	nat := func(n api.Nat) api.Nat {
		l, check := kept(n)
		checks, lists = append(checks, check), append(lists, l)
		return l
	}
	out = c
	out.Key = api.Key{N: nat(c.Key.N), E: nat(c.Key.E), D: nat(c.Key.D)}
	out.P = api.Params{P: nat(c.P.P), Q: nat(c.P.Q), G: nat(c.P.G)}
	out.Secret, out.Face = nat(c.Secret), nat(c.Face)
	out.Trusted = append(slices.Clone(c.Trusted), "h1", "h2")[:len(c.Trusted)]
	out.Certs = nil
	for _, x := range c.Certs {
		sig, check := kept(x.Sig)
		checks = append(checks, check)
		x.N, x.E, x.Sig = nat(x.N), nat(x.E), sig
		out.Certs = append(out.Certs, x)
	}
	out.Certs = append(out.Certs, certBy(5, 6, 0))[:len(c.Certs)]
	same = func() bool {
		for _, check := range checks {
			if !check() {
				return false
			}
		}
		return reflect.DeepEqual(out.Trusted[:cap(out.Trusted)][:len(c.Trusted)+2], append(slices.Clone(c.Trusted), "h1", "h2")) && sameCerts(out.Certs[:len(c.Certs)+1][len(c.Certs):], []api.Cert{certBy(5, 6, 0)})
	}
	spoil = func() {
		for _, l := range lists {
			fill(l)
		}
		for i, x := range out.Certs {
			fill(x.Sig)
			out.Certs[i] = api.Cert{}
		}
		for i := range out.Trusted {
			out.Trusted[i] = "nobody"
		}
	}
	return out, same, spoil
}

func TestMemoryOfConfigs(t *testing.T) {
	for _, bound := range []bool{false, true} {
		var l []*pair
		for range 2 {
			l = append(l, begun(t, config(0, bound), config(2, bound)))
		}
		client, clientSame, spoilClient := keptConfig(config(0, bound))
		server, serverSame, spoilServer := keptConfig(config(2, bound))
		l[1].client, l[1].server = made(t, client), made(t, server)
		if e := l[1].client.Call(addr(2), "h2", l[1].now); e != api.OK || !clientSame() || !serverSame() {
			t.Fatalf("New has changed a configuration: %v", e)
		}
		spoilClient()
		spoilServer()
		for i := range 16 {
			if i == 8 {
				for _, p := range l {
					p.client.Restart(5)
					p.server.Restart(6)
				}
			}
			want, got := l[0].round(t), l[1].round(t)
			if !reflect.DeepEqual(got, want) {
				t.Fatalf("round %d: %+v, want %+v", i, got, want)
			}
			wantSame(t, l[1].client, stateOf(l[0].client))
			wantSame(t, l[1].server, stateOf(l[0].server))
		}
	}
}

func TestMemoryOfPackets(t *testing.T) {
	for _, bound := range []bool{false, true} {
		plain := begun(t, config(0, bound), config(2, bound))
		p := begun(t, config(0, bound), config(2, bound))
		for i := range 12 {
			p.now += second
			draws, drawsSame := kept(drawn(int64(2*i+1), 64))
			request := polled(t, p.client, addr(2), p.now, draws)
			b, bSame := kept(request)
			if !drawsSame() {
				t.Fatal("Poll has changed its draws")
			}
			fill(draws)
			fill(request)
			draws, drawsSame = kept(drawn(int64(2*i+2), 64))
			out := received(t, p.server, addr(0), b, p.now, draws).Out
			answer, answerSame := kept(out)
			if !bSame() || !drawsSame() {
				t.Fatal("Receive has changed a request or its draws")
			}
			fill(b)
			fill(draws)
			fill(out)
			got := received(t, p.client, addr(2), answer, p.now, nil)
			if !answerSame() {
				t.Fatal("Receive has changed an answer")
			}
			fill(answer)
			if want := plain.round(t); !reflect.DeepEqual(got, want) {
				t.Fatalf("round %d: %+v, want %+v", i, got, want)
			}
			wantSame(t, p.client, stateOf(plain.client))
			for _, c := range p.client.Certs() {
				fill(c.N)
				fill(c.E)
				fill(c.Sig)
			}
			for i, x := range p.client.Peers() {
				x.Bits, p.client.Peers()[i].Name = 99, "nobody"
			}
			wantSame(t, p.client, stateOf(plain.client))
		}
	}
}

// Draws and packets end where they end, whatever lies behind.
func TestBehindTheEnd(t *testing.T) {
	p := plain(t, false).upTo(t, 3)
	draws := drawn(1, 64)
	if _, e := p.client.Poll(addr(0), p.now+second, draws[:19]); e != api.ErrDraws {
		t.Errorf("Poll: %v", e)
	}
	p.now += second
	request := polled(t, p.client, addr(0), p.now, draws[:20])
	if _, e := p.server.Receive(addr(1), request, p.now, draws[:15]); e != api.ErrDraws {
		t.Errorf("Receive: %v", e)
	}
	whole := append(slices.Clone(request), 1, 2, 3)
	if _, e := p.server.Receive(addr(1), whole[:len(request)], p.now, draws[:16]); e != api.OK {
		t.Errorf("Receive: %v", e)
	}
}

// Rule 8: hosts of the same configuration answer alike, however often they are asked.
func TestAlike(t *testing.T) {
	a, b := begun(t, config(0, true), config(3, true)), begun(t, config(0, true), config(3, true))
	for range 12 {
		request := a.ask(t)
		if !bytes.Equal(b.ask(t), request) {
			t.Fatal("two hosts do not ask alike")
		}
		answer := a.reply(t, request)
		if !bytes.Equal(b.reply(t, request), answer) {
			t.Fatal("two hosts do not answer alike")
		}
		if !reflect.DeepEqual(a.hear(t, answer), b.hear(t, answer)) {
			t.Fatal("two hosts do not hear alike")
		}
	}
}

// P1: no call panics, and each ends, at all configurations that may be, and all bytes.
func TestAnyArguments(t *testing.T) {
	r := rand.New(rand.NewSource(171))
	long := slices.Repeat(api.Nat{1<<64 - 1, 7}, 20000)
	short := []api.Nat{nil, {0, 0}, {1}, {2}, {3}, {11}, {1<<64 - 1}}
	anyNat := func() api.Nat {
		if r.Intn(4) == 0 {
			return long
		}
		return short[r.Intn(len(short))]
	}
	for range 60 {
		c := config(1, r.Intn(2) == 0)
		c.P = api.Params{P: anyNat(), Q: anyNat(), G: anyNat()}
		if r.Intn(3) == 0 {
			c.P = params()
		}
		c.Secret, c.Face = anyNat(), anyNat()
		c.Trusted = []string{"h0", "", "\x00", "h0"}
		p := begun(t, c, config(0, c.Bound))
		for range 6 {
			answer := p.reply(t, p.ask(t))
			p.client.Receive(addr(0), answer, p.now, nil)
		}
		for op := range 10 {
			var x []api.Ext
			if op > 0 {
				x = []api.Ext{field(op, drawn(r.Int63(), r.Intn(40)))}
			}
			if heard := received(t, p.client, asker, sealed(t, asking(x...), asker, addr(1), keyID, 0), p.now, drawn(1, 64)); heard.What != host.Answered {
				t.Errorf("op %d: %+v", op, heard)
			}
		}
		for range 50 {
			b := drawn(r.Int63(), r.Intn(300))
			if len(b) > 0 {
				b[0] = byte(4<<3 | r.Intn(8))
			}
			p.client.Receive(r.Uint32(), b, r.Uint64(), nil)
			p.client.Receive(addr(0), b, r.Uint64(), b)
			p.client.Poll(addr(0), r.Uint64(), b)
			p.client.Choose(r.Uint64())
		}
	}
	for _, c := range []host.Config{{Key: api.Key{N: long, E: long, D: long}, Name: "h", Stratum: 1}, {Name: string(drawn(1, 1<<20)), Key: keyAt(0), Stratum: 1}, {Name: "h", Key: keyAt(0), Stratum: 1, Certs: make([]api.Cert, 1<<16)}, {Name: "h", Key: keyAt(0), Stratum: 1, Trusted: make([]string, 1<<16)}, {Name: "h", Key: keyAt(0), Stratum: 1, Certs: []api.Cert{{N: nat.Of(5), Sig: make([]byte, 1<<20)}}}} {
		if h, e := host.New(c); h != nil || e != api.ErrArg {
			t.Errorf("New = %v, %v", h, e)
		}
	}
}
