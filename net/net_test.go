package net_test

import (
	"math"
	"math/big"
	"math/rand"
	"testing"

	"clepsydra/api"
	"clepsydra/host"
	"clepsydra/net"
)

// P18.1: New, Now, Shows, Mail, Log, Host.

func TestNew(t *testing.T) {
	for what, c := range map[string]struct {
		hosts, clocks int
		change        func(l []host.Config, clocks []net.Clock)
		want          api.Errno
	}{
		"one host":              {1, 1, nil, api.OK},
		"as many as may be":     {16, 16, nil, api.OK},
		"one more":              {17, 17, nil, api.ErrArg},
		"none":                  {0, 0, nil, api.ErrArg},
		"a clock too few":       {3, 2, nil, api.ErrArg},
		"a clock too many":      {3, 4, nil, api.ErrArg},
		"no clocks":             {1, 0, nil, api.ErrArg},
		"clocks alone":          {0, 1, nil, api.ErrArg},
		"the greatest rate":     {3, 3, func(l []host.Config, clocks []net.Clock) { clocks[2].Rate = 16 }, api.OK},
		"the least rate":        {3, 3, func(l []host.Config, clocks []net.Clock) { clocks[2].Rate = -16 }, api.OK},
		"a greater rate":        {3, 3, func(l []host.Config, clocks []net.Clock) { clocks[2].Rate = 17 }, api.ErrArg},
		"a lesser rate":         {3, 3, func(l []host.Config, clocks []net.Clock) { clocks[0].Rate = -17 }, api.ErrArg},
		"the greatest int64":    {3, 3, func(l []host.Config, clocks []net.Clock) { clocks[1].Rate = math.MaxInt64 }, api.ErrArg},
		"the least int64":       {3, 3, func(l []host.Config, clocks []net.Clock) { clocks[1].Rate = math.MinInt64 }, api.ErrArg},
		"any beginning":         {3, 3, func(l []host.Config, clocks []net.Clock) { clocks[1].Begin = 1<<64 - 1 }, api.OK},
		"two of one address":    {3, 3, func(l []host.Config, clocks []net.Clock) { l[2].Addr = l[1].Addr }, api.ErrArg},
		"first and last of one": {16, 16, func(l []host.Config, clocks []net.Clock) { l[15].Addr = l[0].Addr }, api.ErrArg},
		"an address 0":          {3, 3, func(l []host.Config, clocks []net.Clock) { l[2].Addr = 0 }, api.OK},
		"two of one name":       {3, 3, func(l []host.Config, clocks []net.Clock) { l[2].Name = l[1].Name }, api.OK},
		"a host that may not":   {3, 3, func(l []host.Config, clocks []net.Clock) { l[2].Stratum = 0 }, api.ErrArg},
		"the first one is none": {3, 3, func(l []host.Config, clocks []net.Clock) { l[0] = host.Config{} }, api.ErrArg},
	} {
		l, cl := configs(c.hosts, false), clocks(c.clocks)
		if c.change != nil {
			c.change(l, cl)
		}
		w, e := net.New(l, cl)
		if e != c.want || (w != nil) != (c.want == api.OK) {
			t.Errorf("New, %s: %v, %v, want %v", what, w, e, c.want)
			continue
		}
		if w.Now() != 0 || len(w.Mail()) != 0 || len(w.Log()) != 0 {
			t.Errorf("New, %s: %d, %v, %v", what, w.Now(), w.Mail(), w.Log())
		}
		for i := range 20 {
			if (w.Host(i) != nil) != (c.want == api.OK && i < c.hosts) {
				t.Errorf("New, %s: Host(%d) = %v", what, i, w.Host(i))
			}
		}
	}
}

func TestShows(t *testing.T) {
	w := world(t, 3, false)
	for _, i := range []int{-1, 3, 4, math.MinInt, math.MaxInt} {
		if shown, e := w.Shows(i); shown != 0 || e != api.ErrStep {
			t.Errorf("Shows(%d) = %d, %v", i, shown, e)
		}
		if h := w.Host(i); h != nil {
			t.Errorf("Host(%d) = %v", i, h)
		}
	}
	// The example of the chapter: behind a second a clock shows its rate 4096 times more.
	do(t, w, net.Step{Kind: net.Tick, N: 1 << 32})
	for i, c := range clocks(3) {
		if shown, e := w.Shows(i); shown != c.Begin+1<<32+uint64(c.Rate)*4096 || e != api.OK {
			t.Errorf("Shows(%d) = %d, %v", i, shown, e)
		}
	}
}

// Clocks of all rates, at times by chance, held against numbers without bounds.
func TestClocks(t *testing.T) {
	r := rand.New(rand.NewSource(181))
	for rate := int64(-16); rate <= 16; rate++ {
		begin := r.Uint64()
		if rate%5 == 0 {
			begin = 1<<64 - 5
		}
		w, e := net.New(configs(1, false), []net.Clock{{Begin: begin, Rate: rate}})
		if e != api.OK {
			t.Fatalf("New: %v", e)
		}
		now := int64(0)
		for range 60 {
			n := r.Int63n(1<<40 + 1)
			switch r.Intn(4) {
			case 0:
				n = r.Int63n(5)
			case 1:
				n = 1<<20 - now%(1<<20) - int64(r.Intn(2))
			}
			do(t, w, net.Step{Kind: net.Tick, N: n})
			now += n
			want := new(big.Int).SetInt64(now / (1 << 20) * rate)
			want.Add(want, big.NewInt(now)).Add(want, new(big.Int).SetUint64(begin))
			want.Mod(want, new(big.Int).Lsh(big.NewInt(1), 64))
			if shown, e := w.Shows(0); w.Now() != now || e != api.OK || shown != want.Uint64() {
				t.Fatalf("at %d, rate %d: Shows = %d, %v, want %v", w.Now(), rate, shown, e, want)
			}
		}
	}
}

// Of nil, and of a world that no call made.
func TestNone(t *testing.T) {
	for _, w := range []*net.World{nil, {}, new(net.World)} {
		for _, i := range []int{-1, 0, 1} {
			if shown, e := w.Shows(i); shown != 0 || e != api.ErrNil {
				t.Errorf("Shows = %d, %v", shown, e)
			}
			if h := w.Host(i); h != nil {
				t.Errorf("Host = %v", h)
			}
		}
		for kind := range 10 {
			wantStep(t, w, net.Step{Kind: kind, N: -1}, api.ErrNil)
		}
		wantStep(t, w, net.Step{Kind: net.Inject, Bytes: make([]byte, 9000)}, api.ErrNil)
		if w.Now() != 0 || len(w.Mail()) != 0 || len(w.Log()) != 0 {
			t.Errorf("%d, %v, %v", w.Now(), w.Mail(), w.Log())
		}
	}
}

// Host hands out the host itself: what is done to it is done in the world.
func TestHostItself(t *testing.T) {
	w := world(t, 3, false)
	for i := range 3 {
		if w.Host(i) != w.Host(i) {
			t.Errorf("Host(%d) hands out others", i)
		}
	}
	if e := w.Host(1).Call(addr(0), "h0", 5); e != api.OK {
		t.Fatalf("Call: %v", e)
	}
	wantStep(t, w, net.Step{Kind: net.Call, A: 1, B: 0}, api.ErrPeer)
	do(t, w, net.Step{Kind: net.Poll, A: 1, B: 0, Draws: drawn(1, 4)})
}
