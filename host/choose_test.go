package host_test

import (
	"math/rand"
	"testing"

	"clepsydra/api"
	"clepsydra/choose"
	"clepsydra/filter"
	"clepsydra/host"
)

// P17.6: Choose.

// crowd is a client with as many associations as are said, all of which have all bits, and what was told of each.
type crowd struct {
	client  *host.Host
	is      host.Config
	servers []host.Config
	begun   []uint64
	told    []*filter.Filter
	now     uint64
}

// gathered is a crowd; each association was begun at another time.
func gathered(t *testing.T, n int) *crowd {
	t.Helper()
	is := config(9, false)
	c := &crowd{client: made(t, is), is: is, now: begin}
	for i := range n {
		p := &pair{clientIs: is, serverIs: config(i, false), client: c.client, now: c.now + second*uint64(i)}
		p.server = made(t, p.serverIs)
		if e := p.client.Call(p.serverIs.Addr, p.serverIs.Name, p.now); e != api.OK {
			t.Fatalf("Call: %v", e)
		}
		c.servers, c.begun, c.told = append(c.servers, p.serverIs), append(c.begun, p.now), append(c.told, filter.New())
		for p.client.Peers()[i].Bits != 15 {
			p.round(t)
		}
		c.now = max(c.now, p.now)
	}
	return c
}

// tell lets a server tell the client a sample by an answer that is made for it, and keeps it.
func (c *crowd) tell(t *testing.T, i int, s api.Sample) {
	t.Helper()
	c.now += second
	server := c.servers[i]
	request := read(t, polled(t, c.client, server.Addr, c.now, drawn(int64(c.now), 4)))
	c.now += uint64(s.Delay)
	// Both ways take equally long, or the way back a unit more.
	there := c.now - uint64(s.Delay-s.Delay/2) + uint64(s.Offset)
	if s.Delay%2 != 0 {
		there++
	}
	answer := api.Packet{Version: 4, Mode: 4, Disp: uint32(s.Disp >> 16), Org: request.Xmt, Rec: there, Xmt: there}
	b := sealed(t, answer, server.Addr, c.is.Addr, request.Mac.Key, cookieOf(server, c.is))
	heard := received(t, c.client, server.Addr, b, c.now, nil)
	s.At = int64(c.now - c.begun[i])
	if heard.What != host.Told || heard.Sample != s {
		t.Fatalf("%+v was told of %+v", heard, s)
	}
	if e := c.told[i].Add(s); e != api.OK {
		t.Fatalf("Add: %v", e)
	}
}

// near is the nearest number from minus a bound to the bound.
func near(n, bound int64) int64 {
	if n > bound {
		return bound
	}
	if n < -bound {
		return -bound
	}
	return n
}

// chosen is what Choose is to answer, by what was told.
func (c *crowd) chosen(now uint64) (int64, api.Errno) {
	var spans []api.Span
	var offsets, dists []int64
	for i, f := range c.told {
		age := int64(now - c.begun[i])
		if s, e := f.Best(age); e == api.OK {
			d := filter.Distance(s, age)
			spans = append(spans, api.Span{Lo: near(s.Offset-d, 1<<61), Mid: s.Offset, Hi: near(s.Offset+d, 1<<61)})
			offsets, dists = append(offsets, near(s.Offset, 1<<40)), append(dists, near(d, 1<<40))
		}
	}
	places, e := choose.Survive(spans)
	if e != api.OK {
		return 0, e
	}
	var left, apart []int64
	for _, i := range places {
		left, apart = append(left, offsets[i]), append(apart, dists[i])
	}
	return choose.Combine(left, apart)
}

// wantChosen fails, if Choose does not answer so, or not as was told.
func (c *crowd) wantChosen(t *testing.T, now uint64, want int64, e api.Errno) {
	t.Helper()
	if got, err := c.client.Choose(now); got != want || err != e {
		t.Errorf("Choose = %d, %v, want %d, %v", got, err, want, e)
	}
	if got, err := c.chosen(now); got != want || err != e {
		t.Errorf("what was told chooses %d, %v, not %d, %v", got, err, want, e)
	}
}

func TestChoose(t *testing.T) {
	if offset, e := made(t, config(1, false)).Choose(begin); offset != 0 || e != api.ErrMajority {
		t.Errorf("Choose without associations = %d, %v", offset, e)
	}
	const wide = 1 << 20 // a distance's half by its delay
	c := gathered(t, 5)
	c.wantChosen(t, c.now, 0, api.ErrMajority)
	// One alone is the majority; those that tell nothing do not count.
	c.tell(t, 3, api.Sample{Offset: 7, Delay: wide})
	c.wantChosen(t, c.now, 7, api.OK)
	// Two that are far apart are none; two of three are.
	c.tell(t, 1, api.Sample{Offset: 1 << 30, Delay: wide})
	c.wantChosen(t, c.now, 0, api.ErrMajority)
	c.tell(t, 4, api.Sample{Offset: 17, Delay: wide})
	c.wantChosen(t, c.now, 12, api.OK)
	// With a fourth one that is right, but wide, which weighs less, nearly nothing else is told.
	c.tell(t, 0, api.Sample{Offset: 1 << 18, Delay: wide * 64})
	if got, e := c.client.Choose(c.now); e != api.OK || got <= 12 || got > 1<<16 {
		t.Errorf("Choose = %d, %v", got, e)
	}
	// Nothing is used up by choosing.
	for range 3 {
		got, e := c.client.Choose(c.now)
		c.wantChosen(t, c.now, got, e)
	}
}

// Offsets and distances that are more than can be combined, and a region without a middle.
func TestChooseFar(t *testing.T) {
	for _, c := range []struct {
		samples []api.Sample
		want    int64
		e       api.Errno
	}{
		{[]api.Sample{{Offset: 1 << 40}}, 1 << 40, api.OK}, {[]api.Sample{{Offset: 1<<40 + 1}}, 1 << 40, api.OK}, {[]api.Sample{{Offset: 1 << 60}}, 1 << 40, api.OK}, {[]api.Sample{{Offset: -1 << 60}}, -1 << 40, api.OK}, {[]api.Sample{{Offset: -1<<40 - 1}}, -1 << 40, api.OK}, {[]api.Sample{{Offset: -1<<40 + 1}}, -1<<40 + 1, api.OK},
		{[]api.Sample{{Offset: 5, Delay: 1 << 42}}, 5, api.OK}, {[]api.Sample{{Offset: 5, Disp: 1<<48 - 1<<16}}, 5, api.OK}, {[]api.Sample{{Offset: 1 << 60, Delay: 1 << 55, Disp: 1<<48 - 1<<16}}, 1 << 40, api.OK},
		// Their intervals meet, but no middle is where they do.
		{[]api.Sample{{Offset: 0, Delay: 1 << 30}, {Offset: 1<<30 - 1<<20, Delay: 1 << 30}}, 0, api.ErrNone},
		{[]api.Sample{{Offset: 0, Delay: 1 << 45}, {Offset: 1<<44 + 1<<43, Delay: 1 << 45}}, 0, api.ErrNone},
	} {
		l := gathered(t, len(c.samples))
		for i, s := range c.samples {
			l.tell(t, i, s)
		}
		l.wantChosen(t, l.now, c.want, c.e)
	}
}

// A best sample ages: behind some time its interval is wider, and meets another one's.
func TestChooseAges(t *testing.T) {
	c := gathered(t, 2)
	c.tell(t, 0, api.Sample{Offset: 0})
	c.tell(t, 1, api.Sample{Offset: 1 << 20})
	c.wantChosen(t, c.now, 0, api.ErrMajority)
	later := c.now + 1<<36
	if got, e := c.client.Choose(later); e != api.OK {
		t.Errorf("Choose much later = %d, %v", got, e)
	}
	for _, now := range []uint64{later, c.now + 1<<35, c.now + 1<<62, c.now - 1<<62, c.now + 1<<63, begin, 0} {
		want, e := c.chosen(now)
		c.wantChosen(t, now, want, e)
	}
}

func TestChooseByChance(t *testing.T) {
	r := rand.New(rand.NewSource(176))
	for range 12 {
		c := gathered(t, 1+r.Intn(8))
		for range 40 {
			s := api.Sample{Offset: r.Int63n(1 << 22), Delay: r.Int63n(1 << r.Intn(24)), Disp: int64(r.Intn(4)) << 16}
			if r.Intn(4) == 0 {
				s.Offset = (r.Int63n(1<<61) - 1<<60) >> r.Intn(40)
			}
			c.tell(t, r.Intn(len(c.servers)), s)
			for _, now := range []uint64{c.now, c.now + uint64(r.Int63n(1<<40))} {
				want, e := c.chosen(now)
				c.wantChosen(t, now, want, e)
			}
		}
	}
}
