package desk_test

import (
	"reflect"
	"testing"

	"clepsydra/api"
	"clepsydra/desk"
	"clepsydra/host"
	"clepsydra/net"
	"clepsydra/trail"
)

// P20.1: Standard.
func TestStandard(t *testing.T) {
	for _, bound := range []bool{false, true} {
		for n := 1; n <= 4; n++ {
			want, wantClocks := standard(n, bound)
			l, clocks, e := desk.Standard(n, bound)
			if e != api.OK || !reflect.DeepEqual(l, want) || !reflect.DeepEqual(clocks, wantClocks) {
				t.Fatalf("Standard(%d, %v) = %+v, %+v, %v, want %+v, %+v", n, bound, l, clocks, e, want, wantClocks)
			}
			if w, e := net.New(l, clocks); w == nil || e != api.OK {
				t.Errorf("New: %v", e)
			}
		}
	}
}

func TestNoStandard(t *testing.T) {
	for _, n := range []int{0, 5, -1, 6, 16, 17, 1 << 32, 1<<32 + 1, 1<<63 - 1, -1 << 63} {
		for _, bound := range []bool{false, true} {
			if l, clocks, e := desk.Standard(n, bound); len(l) > 0 || len(clocks) > 0 || e != api.ErrArg {
				t.Errorf("Standard(%d) = %v, %v, %v", n, l, clocks, e)
			}
			if out, e := desk.Run(n, bound, "mail\n"); out != "" || e != api.ErrArg {
				t.Errorf("Run(%d) = %q, %v", n, out, e)
			}
		}
	}
}

// The hosts are configured for each other: each one's certificates make a trail of its name.
func TestStandardTrails(t *testing.T) {
	l, _, _ := desk.Standard(4, false)
	for i, c := range l {
		found := false
		s, _ := trail.New(api.MaxCerts)
		for _, x := range c.Certs {
			if e := s.Put(x); e != api.OK {
				t.Errorf("Put: %v", e)
			}
		}
		for _, now := range []uint32{0, 256, 1<<32 - 1} {
			way, e := s.Find(c.Name, now, c.Trusted)
			found = e == api.OK && len(way) == i+1
			if !found {
				t.Errorf("host %d at %d: %d certificates, %v", i, now, len(way), e)
			}
		}
	}
}

// Rule 5: what is handed out is new memory, and so is each list in it.
func TestMemoryOfStandard(t *testing.T) {
	want, wantClocks := standard(4, true)
	for i := range 4 {
		l, clocks, _ := desk.Standard(4, true)
		spoil(&l[i])
		clocks[i] = net.Clock{}
		for j := range 4 {
			if j != i && (!reflect.DeepEqual(l[j], want[j]) || clocks[j] != wantClocks[j]) {
				t.Fatalf("hosts %d and %d share memory", i, j)
			}
		}
	}
	// Within one configuration a key's limbs are in its certificate, too.
	l, _, _ := desk.Standard(2, true)
	fill(l[1].Key.N)
	fill(l[1].Key.E)
	fill(l[1].Certs[0].N)
	fill(l[1].Certs[0].E)
	fill(l[1].Certs[0].Sig)
	fill(l[1].P.P)
	fill(l[1].Secret)
	if !reflect.DeepEqual(l[1].Certs[1], want[1].Certs[1]) || !reflect.DeepEqual(l[1].Face, want[1].Face) || !reflect.DeepEqual(l[1].P.Q, want[1].P.Q) || !reflect.DeepEqual(l[1].Key.D, want[1].Key.D) {
		t.Error("two lists of one configuration share memory")
	}
	again, clocks, _ := desk.Standard(4, true)
	if !reflect.DeepEqual(again, want) || !reflect.DeepEqual(clocks, wantClocks) {
		t.Error("what was handed out is kept")
	}
}

// spoil writes over all lists of a configuration.
func spoil(c *host.Config) {
	for _, l := range []api.Nat{c.Key.N, c.Key.E, c.Key.D, c.P.P, c.P.Q, c.P.G, c.Secret, c.Face} {
		fill(l)
	}
	for i, x := range c.Certs {
		fill(x.N)
		fill(x.E)
		fill(x.Sig)
		c.Certs[i] = api.Cert{}
	}
	clear(c.Trusted)
}
