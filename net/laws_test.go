package net_test

import (
	"bytes"
	"math/rand"
	"reflect"
	"slices"
	"testing"

	"clepsydra/api"
	"clepsydra/host"
	"clepsydra/keys"
	"clepsydra/net"
	"clepsydra/pkey"
	"clepsydra/wire"
)

// anyStep is a step by chance in a world, nearly always one of those that can be.
func anyStep(r *rand.Rand, w *net.World, hosts int) net.Step {
	mail := w.Mail()
	s := net.Step{A: r.Intn(hosts), B: r.Intn(hosts), Draws: drawn(r.Int63(), 64)}
	if r.Intn(9) == 0 {
		s.A, s.B = r.Intn(hosts+2)-1, r.Intn(hosts+2)-1
	}
	switch r.Intn(20) {
	case 0, 1, 2:
		s.Kind, s.N = net.Tick, r.Int63n(1<<34)
	case 3:
		s.Kind, s.N = net.Tick, []int64{-1, 1<<40 + 1, 0}[r.Intn(3)]
	case 4:
		s.Kind = net.Call
	case 5, 6, 7, 8, 9:
		s.Kind, s.Draws = net.Poll, drawn(r.Int63(), 20-r.Intn(20)*r.Intn(2)*r.Intn(2))
	case 10:
		s.Kind, s.A = net.Drop, r.Intn(len(mail)+2)-1
	case 11:
		s.Kind, s.A = net.Dup, r.Intn(len(mail)+2)-1
	case 12:
		s.Kind, s.From, s.To, s.Bytes = net.Inject, addr(r.Intn(hosts+1)), addr(r.Intn(hosts+1)), drawn(r.Int63(), r.Intn(100))
		if len(mail) > 0 && r.Intn(2) == 0 {
			s.Bytes = mail[r.Intn(len(mail))].Bytes
		}
	case 13:
		s.Kind, s.N = net.Restart, r.Int63n(5)
		if r.Intn(5) > 0 {
			s.A = -1
		}
	default:
		s.Kind, s.A = net.Deliver, len(mail)-1-r.Intn(3)
	}
	return s
}

// P18.3: steps that are refused, but for a Deliver, change nothing; P18.5: a world goes by its steps alone: another one of the same hosts, which those steps alone are done in that were not refused, goes the same way.
func TestGoesByItsSteps(t *testing.T) {
	refused, told := 0, 0
	for seed := range int64(12) {
		r := rand.New(rand.NewSource(seed))
		hosts := 2 + r.Intn(3)
		w, twin := world(t, hosts, seed%2 == 0), world(t, hosts, seed%2 == 0)
		for range 800 {
			s := anyStep(r, w, hosts)
			before := stateOf(w)
			heard, e := w.Do(s)
			if e != api.OK && s.Kind != net.Deliver {
				refused++
				if !reflect.DeepEqual(heard, host.Heard{}) {
					t.Fatalf("Do(%+v) = %+v, %v", s, heard, e)
				}
				wantSame(t, w, before)
				continue
			}
			if s.Kind != net.Deliver && !reflect.DeepEqual(heard, host.Heard{}) {
				t.Fatalf("Do(%+v) = %+v", s, heard)
			}
			got, err := twin.Do(s)
			if err != e || !reflect.DeepEqual(got, heard) {
				t.Fatalf("Do(%+v) = %+v, %v, in the other world %+v, %v", s, heard, e, got, err)
			}
			wantSame(t, twin, stateOf(w))
			if heard.What == host.Told {
				told++
			}
		}
	}
	if refused < 500 || told < 10 {
		t.Errorf("%d were refused, the time was told %d times", refused, told)
	}
}

// P18.4: a step of time changes the clocks alone, each by as much and at most 16 units of 2^20 more or less.
func TestTickChangesClocksAlone(t *testing.T) {
	r := rand.New(rand.NewSource(184))
	w := begun(t, 16)
	ask(t, w, 1, 0, 1)
	inject(t, w, 9)
	for range 500 {
		before := stateOf(w)
		n := r.Int63n(1<<40 + 1)
		do(t, w, net.Step{Kind: net.Tick, N: n, A: 1, B: 0, From: addr(1), To: addr(0), Bytes: []byte{1}, Draws: drawn(1, 64)})
		after := stateOf(w)
		for i := range after.Shows {
			moved := int64(after.Shows[i] - before.Shows[i])
			// In n units there are n by 2^20 of these parts, and one more where it ends in them.
			if drift := moved - n; max(drift, -drift) > 16*(n>>20+1) {
				t.Fatalf("clock %d went %d in %d", i, moved, n)
			}
		}
		if after.Now != before.Now+n {
			t.Fatalf("Now = %d behind %d and %d", after.Now, before.Now, n)
		}
		after.Now, after.Shows = before.Now, before.Shows
		if !reflect.DeepEqual(after, before) {
			t.Fatalf("a step of time has changed more than clocks")
		}
	}
}

// P18.5: what was sent and not dropped comes as it was sent, in whatever order.
func TestComesAsItWasSent(t *testing.T) {
	for seed := range int64(20) {
		r := rand.New(rand.NewSource(seed))
		w := world(t, 4, seed%2 == 0)
		for i := range 4 {
			for j := range 4 {
				w.Do(net.Step{Kind: net.Call, A: i, B: j})
			}
		}
		var onWay []net.Mail
		for step := range 300 {
			if len(onWay) == 0 || r.Intn(3) == 0 {
				a := r.Intn(4)
				b := (a + 1 + r.Intn(3)) % 4
				ask(t, w, a, b, int64(step))
				log := w.Log()
				onWay = append(onWay, net.Mail{From: addr(a), To: addr(b), Bytes: log[len(log)-1].Bytes})
			} else {
				i := r.Intn(len(onWay))
				m := onWay[i]
				onWay = slices.Delete(slices.Clone(onWay), i, i+1)
				if r.Intn(8) == 0 {
					do(t, w, net.Step{Kind: net.Drop, A: i})
				} else {
					log := len(w.Log())
					heard, _ := w.Do(net.Step{Kind: net.Deliver, A: i, Draws: drawn(int64(step), 64)})
					if l := w.Log()[log:]; len(l) > 0 && !bytes.Equal(l[0].Bytes, m.Bytes) {
						t.Fatalf("%x came as %x", m.Bytes, l[0].Bytes)
					}
					if heard.What == host.Answered {
						onWay = append(onWay, net.Mail{From: m.To, To: m.From, Bytes: heard.Out})
					}
				}
			}
			wantMail(t, w, onWay...)
		}
	}
}

// P18.6: packets that anybody puts on their way, and that no host takes in, are logged nowhere.
func TestInjectedAreLoggedNowhere(t *testing.T) {
	w := begun(t, 2)
	upTo(t, w, 1, 0, 15)
	log := w.Log()
	request := log[0].Bytes
	for i := range 50 {
		do(t, w, net.Step{Kind: net.Inject, From: addr(i % 3), To: addr(i % 4), Bytes: drawn(int64(i), i)})
		do(t, w, net.Step{Kind: net.Dup, A: 0})
		do(t, w, net.Step{Kind: net.Drop, A: 0})
		if _, e := w.Do(net.Step{Kind: net.Deliver}); e == api.OK {
			t.Fatalf("packet %d was taken in", i)
		}
	}
	do(t, w, net.Step{Kind: net.Inject, From: addr(1), To: 5, Bytes: request})
	wantStep(t, w, net.Step{Kind: net.Deliver}, api.ErrNone)
	if got := w.Log(); !slices.EqualFunc(got, log, sameEvent) {
		t.Errorf("%d events, not %d", len(got), len(log))
	}
}

// P6: two hosts that are configured for each other come to the time, if nothing is lost, in as many requests as the trail has certificates, and four; what is told is off by at most half the delay and the drift; what is refused hinders nothing.
func TestComeToTheTime(t *testing.T) {
	for seed := range int64(60) {
		r := rand.New(rand.NewSource(seed))
		l := configs(8, seed%2 == 0)
		a, b := r.Intn(8), r.Intn(8)
		if a == b {
			continue
		}
		w, e := net.New(l, clocks(8))
		if e != api.OK {
			t.Fatalf("New: %v", e)
		}
		do(t, w, net.Step{Kind: net.Call, A: a, B: b})
		for requests := 1; ; requests++ {
			if requests > b+1+4 {
				t.Fatalf("seed %d: %d comes not to the time of %d", seed, a, b)
			}
			if heard, off := delayed(t, w, r, a, b, 1<<r.Intn(36)); heard.What == host.Told {
				wantOff(t, heard, off)
				break
			}
		}
		for range 10 {
			heard, off := delayed(t, w, r, a, b, 1<<r.Intn(36))
			wantOff(t, heard, off)
		}
	}
}

// wantOff fails, if the time was not told, or if its offset is off by more than half the delay, half a unit, and the drift.
func wantOff(t *testing.T, heard host.Heard, right [2]int64) {
	t.Helper()
	s := heard.Sample
	if heard.What != host.Told {
		t.Fatalf("%+v", heard)
	}
	// Of what was right when it was asked, and when it was told, one may be farther off: by the drift between.
	drift := max(right[0]-right[1], right[1]-right[0])
	for _, x := range right {
		if off := max(s.Offset-x, x-s.Offset); 2*off > s.Delay+1+2*drift {
			t.Fatalf("the offset of %+v is off from %d by %d", s, x, off)
		}
	}
	if s.Delay < 0 {
		t.Fatalf("a delay below 0: %+v", s)
	}
}

// delayed is a round in which each way takes up to so long, by chance, while things come that are refused; and by how much the other clock was ahead when it was asked, and when it was heard.
func delayed(t *testing.T, w *net.World, r *rand.Rand, a, b int, most int64) (host.Heard, [2]int64) {
	t.Helper()
	ahead := func() int64 {
		of, _ := w.Shows(a)
		other, _ := w.Shows(b)
		return int64(other - of)
	}
	ask(t, w, a, b, r.Int63())
	right := [2]int64{ahead()}
	do(t, w, net.Step{Kind: net.Tick, N: r.Int63n(most)})
	if heard := do(t, w, net.Step{Kind: net.Deliver, Draws: drawn(r.Int63(), 64)}); heard.What != host.Answered {
		t.Fatalf("%+v", heard)
	}
	// A spoilt copy of the answer comes ahead of it, and the one who waits may not ask without draws: both are refused.
	m := w.Mail()[0]
	m.Bytes[r.Intn(len(m.Bytes))] ^= 1 << r.Intn(8)
	do(t, w, net.Step{Kind: net.Inject, From: m.From, To: m.To, Bytes: m.Bytes})
	if heard, e := w.Do(net.Step{Kind: net.Deliver, A: 1, Draws: drawn(1, 64)}); e == api.OK {
		t.Fatalf("a spoilt answer: %+v", heard)
	}
	if _, e := w.Do(net.Step{Kind: net.Poll, A: a, B: b, Draws: drawn(1, 3)}); e == api.OK {
		t.Fatal("a poll without draws")
	}
	do(t, w, net.Step{Kind: net.Tick, N: r.Int63n(most)})
	heard := do(t, w, net.Step{Kind: net.Deliver})
	right[1] = ahead()
	return heard, right
}

// Over ways that take equally long it is told exactly, by clocks without drift.
func TestToldExactly(t *testing.T) {
	cl := []net.Clock{{Begin: 1 << 40}, {Begin: 1<<40 + 987654321}}
	for _, way := range []int64{0, 1, 5, 1 << 20, 1 << 36} {
		w, e := net.New(configs(2, false), cl)
		if e != api.OK {
			t.Fatalf("New: %v", e)
		}
		do(t, w, net.Step{Kind: net.Call, A: 0, B: 1})
		upTo(t, w, 0, 1, 15)
		for i := range int64(3) {
			heard := round(t, w, 0, 1, i, way)
			if heard.What != host.Told || heard.Sample.Offset != 987654321 || heard.Sample.Delay != 2*way {
				t.Errorf("over %d: %+v", way, heard)
			}
		}
		now, _ := w.Shows(0)
		if offset, e := w.Host(0).Choose(now); offset != 987654321 || e != api.OK {
			t.Errorf("Choose = %d, %v", offset, e)
		}
	}
}

// matched tells whether each event Told of a log has an earlier event Sent of its own, from who told to who was told, of the same bytes.
func matched(log []net.Event) bool {
	given := map[int]bool{}
	for i, e := range log {
		if e.Kind != net.Told {
			continue
		}
		j := slices.IndexFunc(log[:i], func(s net.Event) bool {
			return s.Kind == net.Sent && s.Host == e.Peer && s.Peer == e.Host && bytes.Equal(s.Bytes, e.Bytes)
		})
		if j < 0 || given[j] {
			return false
		}
		given[j] = true
	}
	return true
}

// P7: where nobody puts packets of their own on their way each answer that tells the time was sent by whom it says, and tells it once, whatever else is done.
func TestNobodyElseTellsIt(t *testing.T) {
	told := 0
	for seed := range int64(20) {
		r := rand.New(rand.NewSource(seed))
		w := world(t, 3, seed%2 == 0)
		for i := range 3 {
			do(t, w, net.Step{Kind: net.Call, A: i, B: (i + 1) % 3})
		}
		for range 1500 {
			s := anyStep(r, w, 3)
			if s.Kind == net.Inject {
				continue
			}
			w.Do(s)
		}
		for _, e := range w.Log() {
			if e.Kind == net.Told {
				told++
			}
		}
		if !matched(w.Log()) {
			t.Fatalf("seed %d: somebody else has told the time", seed)
		}
	}
	if told < 100 {
		t.Errorf("the time was told just %d times", told)
	}
}

// P7: whatever anybody does, an answer that was not sent was put on its way by somebody. Where cookies are not bound there is a known theft: who asks for a client's cookie by his own key tells the client the time; the log shows it. Where they are bound it comes to nothing.
func TestTheft(t *testing.T) {
	thief := keyAt(2)
	client, server := addr(1), addr(0)
	for _, bound := range []bool{false, true} {
		w := world(t, 2, bound)
		do(t, w, net.Step{Kind: net.Call, A: 1})
		upTo(t, w, 1, 0, 15)
		// He asks in the client's name.
		text := textOf(thief)
		do(t, w, net.Step{Kind: net.Inject, From: client, To: server, Bytes: sealed(t, api.Packet{Version: 4, Mode: 3, Exts: []api.Ext{{Op: api.OpCookie, Value: text}}}, client, server, 5, 0)})
		answer := do(t, w, net.Step{Kind: net.Deliver, Draws: drawn(1, 64)})
		stolen, e := pkey.Decrypt(thief, read(t, answer.Out).Exts[0].Value)
		if e != api.OK || len(stolen) != 4 {
			t.Fatalf("Decrypt = %x, %v", stolen, e)
		}
		do(t, w, net.Step{Kind: net.Drop})
		cookie := uint32(stolen[0])<<24 | uint32(stolen[1])<<16 | uint32(stolen[2])<<8 | uint32(stolen[3])
		if (cookie == keys.Cookie(client, server, 100)) == bound {
			t.Fatalf("bound %v: the cookie is %x", bound, cookie)
		}
		// The client asks for the time, and he answers ahead of the server.
		ask(t, w, 1, 0, 9)
		request := read(t, w.Mail()[0].Bytes)
		forged := sealed(t, api.Packet{Version: 4, Mode: 4, Stratum: 1, Org: request.Xmt, Rec: request.Xmt + 1<<40, Xmt: request.Xmt + 1<<40}, server, client, request.Mac.Key, cookie)
		do(t, w, net.Step{Kind: net.Inject, From: server, To: client, Bytes: forged})
		heard, e := w.Do(net.Step{Kind: net.Deliver, A: 1})
		log := w.Log()
		if bound {
			if e != api.ErrMac || !matched(log) {
				t.Fatalf("a theft of a bound cookie: %+v, %v", heard, e)
			}
			continue
		}
		if e != api.OK || heard.What != host.Told || heard.Sample.Offset != 1<<40 {
			t.Fatalf("a theft: %+v, %v", heard, e)
		}
		if last := log[len(log)-1]; matched(log) || !sameEvent(last, net.Event{Kind: net.Told, Host: client, Peer: server, At: w.Now(), Bytes: forged}) {
			t.Errorf("the log does not show the theft: %+v", last)
		}
		if !slices.ContainsFunc(log, func(e net.Event) bool {
			p, fault := wire.Read(e.Bytes)
			return e.Kind == net.Answered && e.Host == server && e.Peer == client && fault.Code == api.OK && len(p.Exts) == 1 && p.Exts[0].Op == api.OpCookie && bytes.Equal(p.Exts[0].Value, text)
		}) {
			t.Errorf("the log does not show who was answered")
		}
	}
}

// sealed is a packet's bytes with a Mac.
func sealed(t *testing.T, p api.Packet, from, to, id, cookie uint32) []byte {
	t.Helper()
	front, e := wire.Write(p)
	if e != api.OK {
		t.Fatalf("Write: %v", e)
	}
	p.Mac = api.Mac{Has: true, Key: id, Sum: keys.Mac(keys.Session(from, to, id, cookie), front)}
	b, e := wire.Write(p)
	if e != api.OK {
		t.Fatalf("Write: %v", e)
	}
	return b
}

// Rules 4 and 5: what is handed in is not changed and not kept; what is handed out is new memory, and what lies behind a list plays no part.
func TestMemory(t *testing.T) {
	l, cl := configs(2, true), clocks(2)
	w, e := net.New(append(slices.Clone(l), host.Config{})[:2], append(slices.Clone(cl), net.Clock{Rate: 99})[:2])
	if e != api.OK {
		t.Fatalf("New: %v", e)
	}
	twin := world(t, 2, true)
	mine, _ := net.New(l, cl)
	for i := range l {
		clear(l[i].Key.N)
		clear(l[i].Certs[0].Sig)
		clear(l[i].Trusted)
		l[i].Name, l[i].Addr, cl[i] = "nobody", 7, net.Clock{Rate: 5, Begin: 9}
	}
	worlds := []*net.World{w, mine}
	for _, x := range append(worlds, twin) {
		do(t, x, net.Step{Kind: net.Call, A: 1})
	}
	for i := range int64(7) {
		do(t, twin, net.Step{Kind: net.Tick, N: second})
		do(t, twin, net.Step{Kind: net.Poll, A: 1, Draws: drawn(i, 20)})
		do(t, twin, net.Step{Kind: net.Inject, From: 1, To: 2, Bytes: drawn(i, 9)})
		do(t, twin, net.Step{Kind: net.Dup, A: 1})
		do(t, twin, net.Step{Kind: net.Deliver, Draws: drawn(i, 64)})
		for _, x := range worlds {
			draws, b := append(drawn(i, 20), 1, 2, 3), append(drawn(i, 9), 1, 2, 3)
			do(t, x, net.Step{Kind: net.Tick, N: second})
			do(t, x, net.Step{Kind: net.Poll, A: 1, Draws: draws[:20]})
			do(t, x, net.Step{Kind: net.Inject, From: 1, To: 2, Bytes: b[:9]})
			if !bytes.Equal(draws, append(drawn(i, 20), 1, 2, 3)) || !bytes.Equal(b, append(drawn(i, 9), 1, 2, 3)) {
				t.Fatal("a step's bytes have changed")
			}
			fill(draws)
			fill(b)
			do(t, x, net.Step{Kind: net.Dup, A: 1})
			draws = append(drawn(i, 64), 1, 2, 3)
			fill(do(t, x, net.Step{Kind: net.Deliver, Draws: draws[:64]}).Out)
			fill(draws)
			spoil(x)
			wantSame(t, x, stateOf(twin))
		}
		do(t, twin, net.Step{Kind: net.Deliver, A: 2})
		for range 2 {
			do(t, twin, net.Step{Kind: net.Drop})
		}
		for _, x := range worlds {
			do(t, x, net.Step{Kind: net.Deliver, A: 2})
			for range 2 {
				do(t, x, net.Step{Kind: net.Drop})
			}
			spoil(x)
			wantSame(t, x, stateOf(twin))
		}
	}
}

// spoil writes over all that a world hands out but its hosts.
func spoil(w *net.World) {
	mail, log := w.Mail(), w.Log()
	for i := range mail {
		fill(mail[i].Bytes)
		mail[i] = net.Mail{}
	}
	for i := range log {
		fill(log[i].Bytes)
		log[i] = net.Event{}
	}
}

// fill writes over all of a list's memory.
func fill(l []byte) {
	for i := range l[:cap(l)] {
		l[:cap(l)][i] = 0x5c
	}
}

// P1: no call panics, and each ends, at all steps.
func TestAnySteps(t *testing.T) {
	r := rand.New(rand.NewSource(182))
	edges := []int64{0, 1, -1, 2, 1 << 32, 1 << 40, 1<<40 + 1, 1<<63 - 1, -1 << 63}
	for range 20 {
		w := world(t, 3, r.Intn(2) == 0)
		for range 400 {
			s := net.Step{Kind: r.Intn(11) - 1, A: r.Intn(5) - 1, B: r.Intn(5) - 1, N: edges[r.Intn(len(edges))], From: addr(r.Intn(4)), To: addr(r.Intn(4)), Bytes: drawn(r.Int63(), r.Intn(200)), Draws: drawn(r.Int63(), r.Intn(70))}
			if r.Intn(9) == 0 {
				s.A, s.B = int(edges[r.Intn(len(edges))]), int(edges[r.Intn(len(edges))])
			}
			w.Do(s)
			w.Shows(s.A)
			w.Host(s.B)
		}
	}
}
