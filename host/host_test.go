package host_test

import (
	"reflect"
	"slices"
	"strings"
	"testing"

	"clepsydra/api"
	"clepsydra/host"
	"clepsydra/nat"
	"clepsydra/pkey"
)

// The numbers of what a packet comes to, and the bits of what is known.
func TestNumbers(t *testing.T) {
	if got := [...]int{host.Answered, host.Advanced, host.Told, host.Rejected, host.BitAssoc, host.BitCert, host.BitIff, host.BitCookie}; got != [...]int{1, 2, 3, 4, 1, 2, 4, 8} {
		t.Errorf("the numbers are %v", got)
	}
}

// P17.1: New, Call, Peers, Certs, Restart.

func TestNew(t *testing.T) {
	big := key(512, 9)
	tooBig := key(514, 9)
	for what, c := range map[string]struct {
		change func(c *host.Config)
		want   api.Errno
	}{
		"as it is":            {func(c *host.Config) {}, api.OK},
		"no name":             {func(c *host.Config) { c.Name = "" }, api.ErrArg},
		"a name of 32":        {func(c *host.Config) { c.Name = strings.Repeat("x", 32) }, api.OK},
		"a name of 33":        {func(c *host.Config) { c.Name = strings.Repeat("x", 33) }, api.ErrArg},
		"a blank in it":       {func(c *host.Config) { c.Name = "h 1" }, api.ErrArg},
		"its least byte":      {func(c *host.Config) { c.Name = "!" }, api.OK},
		"its greatest byte":   {func(c *host.Config) { c.Name = "~" }, api.OK},
		"a byte 127":          {func(c *host.Config) { c.Name = "h\x7f" }, api.ErrArg},
		"a byte 200":          {func(c *host.Config) { c.Name = "h\xc8" }, api.ErrArg},
		"no key":              {func(c *host.Config) { c.Key = api.Key{} }, api.ErrArg},
		"a public key":        {func(c *host.Config) { c.Key = pkey.Public(c.Key) }, api.ErrArg},
		"a D of noughts":      {func(c *host.Config) { c.Key.D = api.Nat{0, 0, 0} }, api.ErrArg},
		"a D of 1":            {func(c *host.Config) { c.Key.D = nat.Of(1) }, api.OK},
		"a D that is N":       {func(c *host.Config) { c.Key.D = c.Key.N }, api.ErrArg},
		"an even N":           {func(c *host.Config) { c.Key.N = nat.Add(c.Key.N, nat.Of(1)) }, api.ErrArg},
		"an E of 1":           {func(c *host.Config) { c.Key.E = nat.Of(1) }, api.ErrArg},
		"a key of 26 bytes":   {func(c *host.Config) { c.Key = key(208, 1) }, api.ErrArg},
		"a key of 210 digits": {func(c *host.Config) { c.Key = key(210, 1) }, api.OK},
		"a key of 64 bytes":   {func(c *host.Config) { c.Key = big }, api.OK},
		"a key of 65 bytes":   {func(c *host.Config) { c.Key = tooBig }, api.ErrArg},
		"noughts at its ends": {func(c *host.Config) {
			c.Key.N, c.Key.D = append(slices.Clone(big.N), 0, 0), append(slices.Clone(big.D), 0)
		}, api.OK},
		"no certificates":       {func(c *host.Config) { c.Certs = nil }, api.OK},
		"16 of them":            {func(c *host.Config) { c.Certs = slices.Repeat(certs(1), 8) }, api.OK},
		"17 of them":            {func(c *host.Config) { c.Certs = slices.Repeat(certs(0), 17) }, api.ErrArg},
		"a wrong one":           {func(c *host.Config) { c.Certs[1].Subject = "" }, api.ErrArg},
		"a zero one":            {func(c *host.Config) { c.Certs = append(c.Certs, api.Cert{}) }, api.ErrArg},
		"one by nobody":         {func(c *host.Config) { c.Certs[1].Sig = nil }, api.OK},
		"none trusted":          {func(c *host.Config) { c.Trusted = nil }, api.OK},
		"16 trusted":            {func(c *host.Config) { c.Trusted = make([]string, 16) }, api.OK},
		"17 trusted":            {func(c *host.Config) { c.Trusted = slices.Repeat([]string{"h0"}, 17) }, api.ErrArg},
		"stratum 0":             {func(c *host.Config) { c.Stratum = 0 }, api.ErrArg},
		"stratum 1":             {func(c *host.Config) { c.Stratum = 1 }, api.OK},
		"stratum 15":            {func(c *host.Config) { c.Stratum = 15 }, api.OK},
		"stratum 16":            {func(c *host.Config) { c.Stratum = 16 }, api.ErrArg},
		"stratum -1":            {func(c *host.Config) { c.Stratum = -1 }, api.ErrArg},
		"nothing for proofs":    {func(c *host.Config) { c.P, c.Secret, c.Face = api.Params{}, nil, nil }, api.OK},
		"address and seed of 0": {func(c *host.Config) { c.Addr, c.Seed = 0, 0 }, api.OK},
		"nothing at all":        {func(c *host.Config) { *c = host.Config{} }, api.ErrArg},
	} {
		l := config(1, false)
		c.change(&l)
		h, e := host.New(l)
		if e != c.want || (h != nil) != (c.want == api.OK) {
			t.Errorf("New, %s: %v, %v, want %v", what, h, e, c.want)
		}
		if len(h.Peers()) != 0 {
			t.Errorf("New, %s: associations %v", what, h.Peers())
		}
	}
}

func TestCerts(t *testing.T) {
	own, later, earlier, other := certBy(0, 0, api.UseTrusted), certBy(0, 0, 0), certBy(0, 0, api.UsePrivate), certBy(1, 0, 0)
	later.From, earlier.From = validFrom+1, validFrom-1
	for _, c := range []struct{ given, want []api.Cert }{
		{nil, nil}, {[]api.Cert{own}, []api.Cert{own}}, {[]api.Cert{own, other}, []api.Cert{own, other}}, {[]api.Cert{other, own}, []api.Cert{other, own}},
		// A later one stands in the earlier one's place; an earlier one is refused, and left out.
		{[]api.Cert{own, other, later}, []api.Cert{later, other}}, {[]api.Cert{own, earlier, other}, []api.Cert{own, other}}, {[]api.Cert{own, own, other, own}, []api.Cert{own, other}},
	} {
		l := config(1, false)
		l.Certs = c.given
		h := made(t, l)
		for range 2 {
			if !sameCerts(h.Certs(), c.want) {
				t.Errorf("Certs = %+v, want %+v", h.Certs(), c.want)
			}
			if e := h.Restart(5); e != api.OK {
				t.Errorf("Restart: %v", e)
			}
		}
	}
	// The store has more room than a configuration may fill.
	l := config(1, false)
	l.Certs = nil
	for i := range 16 {
		l.Certs = append(l.Certs, certBy(i, 99, 0))
	}
	if h := made(t, l); !sameCerts(h.Certs(), l.Certs) {
		t.Errorf("Certs of 16: %d", len(h.Certs()))
	}
}

func TestCall(t *testing.T) {
	h := made(t, config(1, false))
	full := made(t, config(1, false))
	for i := range api.MaxPeers {
		if e := full.Call(addr(i+2), name(i), begin); e != api.OK {
			t.Fatalf("Call %d: %v", i, e)
		}
	}
	for _, c := range []struct {
		h      *host.Host
		server uint32
		name   string
		want   api.Errno
	}{
		{h, addr(0), "h0", api.OK}, {h, addr(0), "h0", api.ErrPeer}, {h, addr(0), "h2", api.ErrPeer}, {h, addr(2), "h0", api.OK}, {h, 0, "h0", api.OK}, {h, 1<<32 - 1, strings.Repeat("~", 32), api.OK},
		{h, addr(1), "h1", api.ErrArg}, {h, addr(1), "h0", api.ErrArg}, {h, addr(3), "", api.ErrArg}, {h, addr(3), "h 0", api.ErrArg}, {h, addr(3), strings.Repeat("x", 33), api.ErrArg}, {h, addr(3), "\x7f", api.ErrArg}, {h, addr(3), "h1", api.OK},
		// Of several errors the first one.
		{h, addr(0), "", api.ErrArg}, {full, addr(2), "h0", api.ErrPeer}, {full, addr(2), "", api.ErrArg}, {full, addr(1), "h0", api.ErrArg}, {full, addr(0), "", api.ErrArg}, {full, addr(0), "h0", api.ErrFull}, {full, addr(10), "h0", api.ErrFull},
		{nil, addr(0), "h0", api.ErrNil}, {nil, addr(0), "", api.ErrNil}, {&host.Host{}, addr(0), "h0", api.ErrNil}, {&host.Host{}, 0, "", api.ErrNil},
	} {
		before := stateOf(c.h)
		if e := c.h.Call(c.server, c.name, begin); e != c.want {
			t.Errorf("Call(%x, %q): %v, want %v", c.server, c.name, e, c.want)
		}
		if c.want != api.OK {
			wantSame(t, c.h, before)
		}
	}
	want := []host.Peer{{Addr: addr(0), Name: "h0", Want: "h0"}, {Addr: addr(2), Name: "h0", Want: "h0"}, {Addr: 0, Name: "h0", Want: "h0"}, {Addr: 1<<32 - 1, Name: strings.Repeat("~", 32), Want: strings.Repeat("~", 32)}, {Addr: addr(3), Name: "h1", Want: "h1"}}
	if got := h.Peers(); !reflect.DeepEqual(got, want) {
		t.Errorf("Peers = %+v, want %+v", got, want)
	}
	if got := full.Peers(); len(got) != api.MaxPeers || got[0].Addr != addr(2) || got[7].Addr != addr(9) {
		t.Errorf("Peers = %+v", got)
	}
}

// What Peers tells while an association goes on.
func TestPeers(t *testing.T) {
	p := begun(t, config(0, false), config(2, false))
	wantPeer := func(want host.Peer) {
		t.Helper()
		want.Addr, want.Name = addr(2), "h2"
		if got := p.client.Peers(); len(got) != 1 || got[0] != want {
			t.Fatalf("Peers = %+v, want %+v", got, want)
		}
	}
	wantPeer(host.Peer{Want: "h2"})
	request := p.ask(t)
	wantPeer(host.Peer{Want: "h2", Waits: true})
	p.hear(t, p.reply(t, request))
	wantPeer(host.Peer{Want: "h2", Bits: 1})
	p.round(t)
	wantPeer(host.Peer{Want: "h1", Bits: 1})
	p.round(t)
	wantPeer(host.Peer{Want: "h1", Bits: 3})
	p.round(t)
	wantPeer(host.Peer{Want: "h1", Bits: 7})
	p.round(t)
	for samples := range 10 {
		wantPeer(host.Peer{Want: "h1", Bits: 15, Samples: min(samples, 8)})
		request := p.ask(t)
		wantPeer(host.Peer{Want: "h1", Bits: 15, Samples: min(samples, 8), Waits: true})
		p.hear(t, p.reply(t, request))
	}
}

func TestRestart(t *testing.T) {
	p := begun(t, config(0, false), config(1, false)).upTo(t, 15)
	first := p.now
	for range 3 {
		p.round(t)
	}
	p.ask(t)
	if e := p.client.Call(addr(5), "h5", p.now); e != api.OK {
		t.Fatalf("Call: %v", e)
	}
	if len(p.client.Certs()) != 2 || p.client.Peers()[0] != (host.Peer{Addr: addr(1), Name: "h1", Want: "h1", Bits: 15, Samples: 3, Waits: true}) {
		t.Fatalf("ahead of a restart: %+v", p.client.Peers())
	}
	if e := p.client.Restart(9); e != api.OK {
		t.Fatalf("Restart: %v", e)
	}
	if want := []host.Peer{{Addr: addr(1), Name: "h1", Want: "h1"}, {Addr: addr(5), Name: "h5", Want: "h5"}}; !reflect.DeepEqual(p.client.Peers(), want) {
		t.Errorf("Peers = %+v, want %+v", p.client.Peers(), want)
	}
	if !sameCerts(p.client.Certs(), certs(0)) {
		t.Errorf("Certs = %+v", p.client.Certs())
	}
	if _, e := p.client.Choose(p.now); e != api.ErrMajority {
		t.Errorf("Choose: %v", e)
	}
	// When it asked last is kept, of the association that has.
	for _, now := range []uint64{p.now, p.now - 1, first} {
		if _, e := p.client.Poll(addr(1), now, drawn(1, 20)); e != api.ErrOld {
			t.Errorf("Poll: %v", e)
		}
	}
	if _, e := p.client.Poll(addr(5), first, drawn(1, 20)); e != api.OK {
		t.Errorf("Poll: %v", e)
	}
	// It comes to the time again: what was signed last is forgotten, though it was later; when it was begun is kept.
	p.server = made(t, p.serverIs)
	ahead := p.now
	p.upTo(t, 15)
	if heard := p.round(t); heard.What != host.Told || heard.Sample.At != int64(p.now-begin) || p.now <= ahead {
		t.Errorf("behind a restart: %+v", heard)
	}
}

// A server whose clock was set back signs what is older than what it signed before: behind a restart the client takes it all the same.
func TestRestartForgetsSigned(t *testing.T) {
	p := plain(t, false).upTo(t, 7)
	p.behind = 100 * second
	wantRefused(t, p.client, addr(0), p.reply(t, p.ask(t)), p.now, nil, api.ErrOld)
	p.client.Restart(9)
	p.upTo(t, 15)
}

// With a new seed a host's cookies are others, till it has the old one again.
func TestRestartSeed(t *testing.T) {
	for _, bound := range []bool{false, true} {
		p := plain(t, bound).upTo(t, 15)
		for _, c := range []struct {
			seed uint32
			what int
		}{{p.serverIs.Seed, host.Told}, {5, host.Rejected}, {p.serverIs.Seed, host.Told}} {
			p.server.Restart(c.seed)
			p.client.Restart(0)
			p.server.Restart(p.serverIs.Seed)
			p.upTo(t, 15)
			p.server.Restart(c.seed)
			if heard := p.round(t); heard.What != c.what {
				t.Errorf("behind a restart with %x: %+v", c.seed, heard)
			}
		}
	}
}

// Of nil, and of a host that no call made.
func TestNone(t *testing.T) {
	for _, h := range []*host.Host{nil, {}, new(host.Host)} {
		if e := h.Restart(5); e != api.ErrNil {
			t.Errorf("Restart: %v", e)
		}
		if b, e := h.Poll(1, 2, drawn(1, 64)); len(b) != 0 || e != api.ErrNil {
			t.Errorf("Poll = %x, %v", b, e)
		}
		for _, b := range [][]byte{nil, written(t, api.Packet{Version: 4, Mode: 3}), written(t, api.Packet{Version: 4, Mode: 4}), {1}} {
			if heard, e := h.Receive(1, b, 2, nil); !reflect.DeepEqual(heard, host.Heard{}) || e != api.ErrNil {
				t.Errorf("Receive = %+v, %v", heard, e)
			}
		}
		if offset, e := h.Choose(2); offset != 0 || e != api.ErrNil {
			t.Errorf("Choose = %d, %v", offset, e)
		}
		if len(h.Peers()) != 0 || len(h.Certs()) != 0 {
			t.Errorf("Peers = %v, Certs = %v", h.Peers(), h.Certs())
		}
	}
}
