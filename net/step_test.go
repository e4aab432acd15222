package net_test

import (
	"bytes"
	"math"
	"reflect"
	"testing"

	"clepsydra/api"
	"clepsydra/host"
	"clepsydra/net"
)

// P18.2: the steps, one by one. (Those that are refused, but for a Deliver, change nothing: P18.3.)

// wantRefused fails, if a step is not refused with an error, or has changed anything.
func wantRefused(t *testing.T, w *net.World, s net.Step, want api.Errno) {
	t.Helper()
	before := stateOf(w)
	wantStep(t, w, s, want)
	wantSame(t, w, before)
}

// begun is a world whose host 1 has an association with host 0.
func begun(t *testing.T, hosts int) *net.World {
	t.Helper()
	w := world(t, hosts, false)
	do(t, w, net.Step{Kind: net.Call, A: 1})
	return w
}

// inject puts packets of some bytes on their way, till as many are.
func inject(t *testing.T, w *net.World, upTo int) {
	t.Helper()
	for i := len(w.Mail()); i < upTo; i++ {
		do(t, w, net.Step{Kind: net.Inject, From: uint32(i), To: 99, Bytes: []byte{byte(i)}})
	}
}

func TestTick(t *testing.T) {
	w := begun(t, 2)
	for _, n := range []int64{-1, 1<<40 + 1, math.MaxInt64, math.MinInt64, -1 << 40} {
		wantRefused(t, w, net.Step{Kind: net.Tick, N: n}, api.ErrArg)
	}
	now := int64(0)
	for _, n := range []int64{0, 1, 5, 1 << 40, 1<<40 - 1} {
		wantStep(t, w, net.Step{Kind: net.Tick, N: n}, api.OK)
		now += n
		if w.Now() != now {
			t.Fatalf("Now = %d, want %d", w.Now(), now)
		}
	}
	// Up to 2^60, and no unit more.
	for w.Now() <= 1<<60-1<<40 {
		do(t, w, net.Step{Kind: net.Tick, N: 1 << 40})
	}
	left := 1<<60 - w.Now()
	wantRefused(t, w, net.Step{Kind: net.Tick, N: left + 1}, api.ErrArg)
	wantRefused(t, w, net.Step{Kind: net.Tick, N: 1 << 40}, api.ErrArg)
	wantStep(t, w, net.Step{Kind: net.Tick, N: left - 1}, api.OK)
	wantStep(t, w, net.Step{Kind: net.Tick, N: 1}, api.OK)
	wantStep(t, w, net.Step{Kind: net.Tick}, api.OK)
	wantRefused(t, w, net.Step{Kind: net.Tick, N: 1}, api.ErrArg)
	if shown, e := w.Shows(1); w.Now() != 1<<60 || e != api.OK || shown != clocks(2)[1].Begin+1<<60-15*1<<40 {
		t.Errorf("at %d: %d, %v", w.Now(), shown, e)
	}
}

func TestKinds(t *testing.T) {
	if got := [...]int{net.Tick, net.Call, net.Poll, net.Deliver, net.Drop, net.Dup, net.Inject, net.Restart, net.Sent, net.Answered, net.Told}; got != [...]int{1, 2, 3, 4, 5, 6, 7, 8, 1, 2, 3} {
		t.Errorf("the kinds are %v", got)
	}
	w := begun(t, 2)
	for _, kind := range []int{0, -1, 9, 10, math.MaxInt, math.MinInt} {
		wantRefused(t, w, net.Step{Kind: kind, A: 1, B: 0, Draws: drawn(1, 20)}, api.ErrArg)
	}
}

func TestCall(t *testing.T) {
	w := world(t, 12, false)
	for _, c := range []struct {
		a, b int
		want api.Errno
	}{{0, 12, api.ErrStep}, {12, 0, api.ErrStep}, {-1, 0, api.ErrStep}, {0, -1, api.ErrStep}, {12, 12, api.ErrStep}, {math.MinInt, math.MaxInt, api.ErrStep}, {0, 0, api.ErrArg}, {3, 3, api.ErrArg}} {
		wantRefused(t, w, net.Step{Kind: net.Call, A: c.a, B: c.b}, c.want)
	}
	for b := range api.MaxPeers {
		wantStep(t, w, net.Step{Kind: net.Call, A: 11, B: b}, api.OK)
		wantRefused(t, w, net.Step{Kind: net.Call, A: 11, B: b}, api.ErrPeer)
		if got := w.Host(11).Peers(); len(got) != b+1 || got[b] != (host.Peer{Addr: addr(b), Name: name(b), Want: name(b)}) {
			t.Errorf("Peers = %+v", got)
		}
	}
	wantRefused(t, w, net.Step{Kind: net.Call, A: 11, B: 9}, api.ErrFull)
	if len(w.Log()) != 0 || len(w.Mail()) != 0 {
		t.Errorf("%v, %v", w.Log(), w.Mail())
	}
}

// An association is begun as the caller's clock shows, not the other one's, or the world's.
func TestCallAtItsClock(t *testing.T) {
	w := world(t, 2, false)
	do(t, w, net.Step{Kind: net.Tick, N: 1 << 39})
	begin, _ := w.Shows(1)
	do(t, w, net.Step{Kind: net.Call, A: 1})
	upTo(t, w, 1, 0, 15)
	heard := round(t, w, 1, 0, 1, 500)
	now, _ := w.Shows(1)
	if heard.What != host.Told || heard.Sample.At != int64(now-begin) {
		t.Errorf("%+v, want At %d", heard, now-begin)
	}
}

func TestPoll(t *testing.T) {
	w := begun(t, 3)
	twin := begun(t, 3)
	for _, c := range []struct {
		a, b  int
		draws int
		want  api.Errno
	}{{1, 3, 20, api.ErrStep}, {3, 0, 20, api.ErrStep}, {-1, 0, 20, api.ErrStep}, {1, -1, 20, api.ErrStep}, {1, 2, 20, api.ErrPeer}, {0, 1, 20, api.ErrPeer}, {1, 1, 20, api.ErrPeer}, {1, 0, 3, api.ErrDraws}, {1, 0, 0, api.ErrDraws}, {1, 3, 0, api.ErrStep}} {
		wantRefused(t, w, net.Step{Kind: net.Poll, A: c.a, B: c.b, Draws: drawn(1, c.draws)}, c.want)
	}
	for i := range int64(3) {
		do(t, w, net.Step{Kind: net.Tick, N: 7})
		do(t, twin, net.Step{Kind: net.Tick, N: 7})
		now, _ := w.Shows(1)
		want, e := twin.Host(1).Poll(addr(0), now, drawn(i, 4))
		if e != api.OK {
			t.Fatalf("Poll: %v", e)
		}
		wantStep(t, w, net.Step{Kind: net.Poll, A: 1, Draws: drawn(i, 4)}, api.OK)
		wantLog(t, w, int(i), net.Event{Kind: net.Sent, Host: addr(1), Peer: addr(0), At: 7 * (i + 1), Bytes: want})
		if got := w.Mail(); len(got) != int(i)+1 || got[i].From != addr(1) || got[i].To != addr(0) || !bytes.Equal(got[i].Bytes, want) {
			t.Fatalf("Mail = %+v", got)
		}
		wantRefused(t, w, net.Step{Kind: net.Poll, A: 1, Draws: drawn(9, 4)}, api.ErrOld)
	}
}

// At MaxMail packets, and one ahead.
func TestFull(t *testing.T) {
	w := begun(t, 2)
	ask(t, w, 1, 0, 1)
	inject(t, w, api.MaxMail-1)
	wantStep(t, w, net.Step{Kind: net.Dup, A: 7}, api.OK)
	if len(w.Mail()) != api.MaxMail {
		t.Fatalf("%d are on their way", len(w.Mail()))
	}
	do(t, w, net.Step{Kind: net.Tick, N: second})
	for _, c := range []struct {
		s    net.Step
		want api.Errno
	}{
		{net.Step{Kind: net.Poll, A: 1, Draws: drawn(2, 20)}, api.ErrFull}, {net.Step{Kind: net.Dup, A: 5}, api.ErrFull}, {net.Step{Kind: net.Inject, To: addr(0), Bytes: []byte{1}}, api.ErrFull}, {net.Step{Kind: net.Inject}, api.ErrFull},
		// Of several errors the first one.
		{net.Step{Kind: net.Poll, A: 1}, api.ErrFull}, {net.Step{Kind: net.Poll, A: 0, B: 1}, api.ErrFull}, {net.Step{Kind: net.Poll, A: 2}, api.ErrStep}, {net.Step{Kind: net.Dup, A: api.MaxMail}, api.ErrStep}, {net.Step{Kind: net.Inject, Bytes: make([]byte, 8193)}, api.ErrLong},
	} {
		wantRefused(t, w, c.s, c.want)
	}
	// A request that is delivered makes room for its answer.
	if heard := do(t, w, net.Step{Kind: net.Deliver, Draws: drawn(3, 20)}); heard.What != host.Answered || len(w.Mail()) != api.MaxMail {
		t.Fatalf("%+v, %d are on their way", heard, len(w.Mail()))
	}
	do(t, w, net.Step{Kind: net.Drop})
	wantStep(t, w, net.Step{Kind: net.Poll, A: 1, Draws: drawn(2, 20)}, api.OK)
	wantRefused(t, w, net.Step{Kind: net.Inject}, api.ErrFull)
}

// A poll that finds no room has not asked: as soon as there is some, it may at the same time.
func TestFullPoll(t *testing.T) {
	w := begun(t, 2)
	inject(t, w, api.MaxMail)
	wantRefused(t, w, net.Step{Kind: net.Poll, A: 1, Draws: drawn(2, 20)}, api.ErrFull)
	do(t, w, net.Step{Kind: net.Drop, A: 3})
	wantStep(t, w, net.Step{Kind: net.Poll, A: 1, Draws: drawn(2, 20)}, api.OK)
	wantRefused(t, w, net.Step{Kind: net.Poll, A: 1, Draws: drawn(2, 20)}, api.ErrFull)
}

// mails are as many packets on their way as are said, each told by its bytes.
func mails(t *testing.T, w *net.World, n int) []net.Mail {
	t.Helper()
	var l []net.Mail
	for i := range n {
		m := net.Mail{From: uint32(10 + i), To: uint32(20 + i), Bytes: bytes.Repeat([]byte{byte(i)}, i)}
		do(t, w, net.Step{Kind: net.Inject, From: m.From, To: m.To, Bytes: m.Bytes})
		l = append(l, m)
	}
	return l
}

func TestDropAndDup(t *testing.T) {
	w := world(t, 2, false)
	for _, a := range []int{-1, 0, 1, math.MaxInt, math.MinInt} {
		wantRefused(t, w, net.Step{Kind: net.Drop, A: a}, api.ErrStep)
		wantRefused(t, w, net.Step{Kind: net.Dup, A: a}, api.ErrStep)
		wantRefused(t, w, net.Step{Kind: net.Deliver, A: a, Draws: drawn(1, 64)}, api.ErrStep)
	}
	l := mails(t, w, 5)
	wantMail(t, w, l...)
	for _, a := range []int{-1, 5, 6, math.MaxInt, math.MinInt} {
		wantRefused(t, w, net.Step{Kind: net.Drop, A: a}, api.ErrStep)
		wantRefused(t, w, net.Step{Kind: net.Dup, A: a}, api.ErrStep)
		wantRefused(t, w, net.Step{Kind: net.Deliver, A: a}, api.ErrStep)
	}
	// What a step says of other things plays no part.
	wantStep(t, w, net.Step{Kind: net.Drop, A: 2, B: 1, N: -5, From: 3, To: 4, Bytes: make([]byte, 9000)}, api.OK)
	wantMail(t, w, l[0], l[1], l[3], l[4])
	wantStep(t, w, net.Step{Kind: net.Dup, A: 1, B: 3, N: -5, From: 3, To: 4, Bytes: make([]byte, 9000)}, api.OK)
	wantMail(t, w, l[0], l[1], l[3], l[4], l[1])
	wantStep(t, w, net.Step{Kind: net.Drop, A: 4}, api.OK)
	wantStep(t, w, net.Step{Kind: net.Drop, A: 0}, api.OK)
	wantMail(t, w, l[1], l[3], l[4])
	wantStep(t, w, net.Step{Kind: net.Dup, A: 2}, api.OK)
	wantStep(t, w, net.Step{Kind: net.Dup, A: 3}, api.OK)
	wantMail(t, w, l[1], l[3], l[4], l[4], l[4])
	if len(w.Log()) != 0 {
		t.Errorf("Log = %+v", w.Log())
	}
}

func TestInject(t *testing.T) {
	w := world(t, 2, false)
	wantRefused(t, w, net.Step{Kind: net.Inject, Bytes: make([]byte, 8193)}, api.ErrLong)
	wantRefused(t, w, net.Step{Kind: net.Inject, Bytes: make([]byte, 1<<20)}, api.ErrLong)
	// Of any ends, also of no host, and of any bytes, also of none.
	want := []net.Mail{{From: 0, To: 0}, {From: addr(0), To: addr(1), Bytes: make([]byte, 8192)}, {From: 1<<32 - 1, To: 5, Bytes: []byte{1, 2, 3}}}
	for i, m := range want {
		wantStep(t, w, net.Step{Kind: net.Inject, A: -1, B: 99, N: -1, From: m.From, To: m.To, Bytes: m.Bytes}, api.OK)
		wantMail(t, w, want[:i+1]...)
	}
	if len(w.Log()) != 0 {
		t.Errorf("Log = %+v", w.Log())
	}
}

func TestRestart(t *testing.T) {
	w := begun(t, 2)
	for _, a := range []int{-1, 2, math.MaxInt, math.MinInt} {
		wantRefused(t, w, net.Step{Kind: net.Restart, A: a, N: 5}, api.ErrStep)
	}
	upTo(t, w, 1, 0, 15)
	wantStep(t, w, net.Step{Kind: net.Restart, A: 1}, api.OK)
	if got := w.Host(1).Peers(); got[0] != (host.Peer{Addr: addr(0), Name: "h0", Want: "h0"}) {
		t.Errorf("Peers = %+v", got)
	}
	// The seed is N modulo 2^32: with the one that it has a server's cookies stay.
	for _, c := range []struct {
		n    int64
		what int
	}{{100, host.Told}, {100 + 1<<32, host.Told}, {100 - 1<<32, host.Told}, {100 + 1<<62, host.Told}, {math.MinInt64 + 100, host.Told}, {101, host.Rejected}, {-100, host.Rejected}, {100 + 1<<31, host.Rejected}} {
		upTo(t, w, 1, 0, 15)
		do(t, w, net.Step{Kind: net.Restart, A: 0, N: 100})
		wantStep(t, w, net.Step{Kind: net.Restart, A: 1}, api.OK)
		upTo(t, w, 1, 0, 15)
		wantStep(t, w, net.Step{Kind: net.Restart, A: 0, N: c.n}, api.OK)
		if heard := round(t, w, 1, 0, 3, 0); heard.What != c.what {
			t.Errorf("behind a restart by %d: %+v", c.n, heard)
		}
	}
}

// What each Deliver of an exchange tells, logs and puts on its way.
func TestDeliver(t *testing.T) {
	w := begun(t, 2)
	twin := begun(t, 2)
	client, server := addr(1), addr(0)
	for i := range int64(8) {
		ahead := len(w.Log())
		for _, x := range []*net.World{w, twin} {
			ask(t, x, 1, 0, i)
			do(t, x, net.Step{Kind: net.Tick, N: 1000})
		}
		request := w.Mail()[0].Bytes
		// The server takes the request in as its own clock shows, by the step's draws.
		now, _ := w.Shows(0)
		answered, _ := twin.Host(0).Receive(client, request, now, drawn(i, 64))
		if heard := do(t, w, net.Step{Kind: net.Deliver, B: 9, N: 7, From: 3, To: 4, Bytes: []byte{1}, Draws: drawn(i, 64)}); !reflect.DeepEqual(heard, answered) || heard.What != host.Answered {
			t.Fatalf("%d: %+v, want %+v", i, heard, answered)
		}
		at := w.Now()
		want := []net.Event{
			{Kind: net.Sent, Host: client, Peer: server, At: at - 1000, Bytes: request},
			{Kind: net.Answered, Host: server, Peer: client, At: at, Bytes: request},
			{Kind: net.Sent, Host: server, Peer: client, At: at, Bytes: answered.Out},
		}
		wantLog(t, w, ahead, want...)
		wantMail(t, w, net.Mail{From: server, To: client, Bytes: answered.Out})
		do(t, w, net.Step{Kind: net.Tick, N: 500})
		do(t, twin, net.Step{Kind: net.Tick, N: 500})
		now, _ = w.Shows(1)
		told, _ := twin.Host(1).Receive(server, answered.Out, now, nil)
		if heard := do(t, w, net.Step{Kind: net.Deliver}); !reflect.DeepEqual(heard, told) {
			t.Fatalf("%d: %+v, want %+v", i, heard, told)
		}
		if told.What == host.Told {
			want = append(want, net.Event{Kind: net.Told, Host: client, Peer: server, At: at + 500, Bytes: answered.Out})
		}
		if (told.What == host.Told) != (i >= 4) {
			t.Fatalf("%d: %+v", i, told)
		}
		wantLog(t, w, ahead, want...)
		wantMail(t, w)
	}
}

// A no is answered and sent, and rejects; neither is told.
func TestDeliverNo(t *testing.T) {
	w := begun(t, 2)
	upTo(t, w, 1, 0, 15)
	do(t, w, net.Step{Kind: net.Restart, N: 5})
	ahead := len(w.Log())
	ask(t, w, 1, 0, 1)
	request := w.Mail()[0].Bytes
	heard := do(t, w, net.Step{Kind: net.Deliver})
	want := []net.Event{
		{Kind: net.Sent, Host: addr(1), Peer: addr(0), At: w.Now(), Bytes: request},
		{Kind: net.Answered, Host: addr(0), Peer: addr(1), At: w.Now(), Bytes: request},
		{Kind: net.Sent, Host: addr(0), Peer: addr(1), At: w.Now(), Bytes: heard.Out},
	}
	if heard := do(t, w, net.Step{Kind: net.Deliver}); !reflect.DeepEqual(heard, host.Heard{What: host.Rejected}) {
		t.Errorf("a no: %+v", heard)
	}
	wantLog(t, w, ahead, want...)
	wantMail(t, w)
}

// A packet that is refused is on its way no more, and nothing else has changed.
func TestDeliverRefused(t *testing.T) {
	w := begun(t, 2)
	ask(t, w, 1, 0, 1)
	request := w.Mail()[0].Bytes
	for _, c := range []struct {
		m    net.Mail
		want api.Errno
	}{
		{net.Mail{From: addr(1), To: addr(2), Bytes: request}, api.ErrNone}, {net.Mail{From: addr(1), To: 0, Bytes: request}, api.ErrNone}, {net.Mail{From: addr(1), To: 1, Bytes: nil}, api.ErrNone},
		{net.Mail{From: addr(1), To: addr(0)}, api.ErrShort}, {net.Mail{From: addr(1), To: addr(0), Bytes: make([]byte, 48)}, api.ErrHead}, {net.Mail{From: addr(5), To: addr(0), Bytes: request}, api.ErrMac}, {net.Mail{From: addr(1), To: addr(1), Bytes: request}, api.ErrMac}, {net.Mail{From: addr(1), To: addr(0), Bytes: request[:len(request)-20]}, api.ErrMac},
	} {
		for _, place := range []int{0, 1} {
			before := stateOf(w)
			do(t, w, net.Step{Kind: net.Inject, From: c.m.From, To: c.m.To, Bytes: c.m.Bytes})
			a := 1
			if place == 0 {
				// The other one stands behind it then.
				do(t, w, net.Step{Kind: net.Dup, A: 0})
				do(t, w, net.Step{Kind: net.Drop, A: 0})
				a = 0
			}
			wantStep(t, w, net.Step{Kind: net.Deliver, A: a, Draws: drawn(1, 64)}, c.want)
			wantSame(t, w, before)
		}
	}
	// By too few draws a proof is refused, too.
	w = begun(t, 2)
	upTo(t, w, 1, 0, 3)
	ask(t, w, 1, 0, 1)
	ahead := len(w.Log())
	wantStep(t, w, net.Step{Kind: net.Deliver, Draws: drawn(1, 15)}, api.ErrDraws)
	wantMail(t, w)
	wantLog(t, w, ahead)
}

// An answer goes to the packet's From, whoever that is.
func TestAnswersGoToFrom(t *testing.T) {
	w := begun(t, 3)
	ask(t, w, 1, 0, 1)
	request := w.Mail()[0].Bytes
	do(t, w, net.Step{Kind: net.Tick, N: 9})
	// Of an address that no host has nobody's request is sealed, but for the time there is a no.
	b := append([]byte{4<<3 | 3}, make([]byte, 47+4+16)...)
	do(t, w, net.Step{Kind: net.Inject, From: 77, To: addr(2), Bytes: b})
	ahead := len(w.Log())
	heard := do(t, w, net.Step{Kind: net.Deliver, A: 1})
	if heard.What != host.Answered || len(read(t, heard.Out).Mac.Sum) != 0 {
		t.Fatalf("%+v", heard)
	}
	wantLog(t, w, ahead, net.Event{Kind: net.Answered, Host: addr(2), Peer: 77, At: w.Now(), Bytes: b}, net.Event{Kind: net.Sent, Host: addr(2), Peer: 77, At: w.Now(), Bytes: heard.Out})
	wantMail(t, w, net.Mail{From: addr(1), To: addr(0), Bytes: request}, net.Mail{From: addr(2), To: 77, Bytes: heard.Out})
	wantStep(t, w, net.Step{Kind: net.Deliver, A: 1}, api.ErrNone)
	wantMail(t, w, net.Mail{From: addr(1), To: addr(0), Bytes: request})
}
