package net_test

import (
	"reflect"
	"testing"

	"clepsydra/api"
	"clepsydra/cert"
	"clepsydra/host"
	"clepsydra/nat"
	"clepsydra/net"
	"clepsydra/pkey"
	"clepsydra/sha"
)

// mersenne is 2 to the n, less one.
func mersenne(n int) api.Nat {
	p, _ := nat.Sub(nat.Shift(nat.Of(1), n), nat.Of(1))
	return p
}

// standard is the standard world of two hosts, not bound.
func standard(t *testing.T) *net.World {
	t.Helper()
	l := configs(2, false)
	for i, q := range []int{107, 89} {
		k, e := pkey.Make(mersenne(127), mersenne(q), 65537)
		if e != api.OK {
			t.Fatalf("Make: %v", e)
		}
		l[i].Addr, l[i].Key, l[i].Seed = uint32(i+1), k, uint32(i)
	}
	var all []api.Cert
	for i, usage := range []int{api.UseTrusted, 0} {
		c, e := cert.Sign(l[0].Key, api.Cert{Serial: uint32(i), Issuer: "h0", Subject: l[i].Name, To: 1<<32 - 1, N: l[i].Key.N, E: l[i].Key.E, Usage: usage})
		if e != api.OK {
			t.Fatalf("Sign: %v", e)
		}
		all = append(all, c)
		l[i].Certs = all[:i+1]
	}
	w, e := net.New(l, []net.Clock{{Begin: 1 << 40}, {Begin: 1 << 40, Rate: 1}})
	if e != api.OK {
		t.Fatalf("New: %v", e)
	}
	return w
}

// drawsOf are the draws of a script's line.
func drawsOf(line int) []byte {
	b, _ := sha.Expand([]byte{0, 0, byte(line >> 8), byte(line)}, 64)
	for i := range b {
		b[i] = max(b[i], 1)
	}
	return b
}

// The examples of the whole, as far as they are steps of a world.
func TestExamples(t *testing.T) {
	w := standard(t)
	line := 0
	step := func(kind, a, b int, n int64) host.Heard {
		t.Helper()
		line++
		return do(t, w, net.Step{Kind: kind, A: a, B: b, N: n, Draws: drawsOf(line - 1)})
	}
	step(net.Call, 1, 0, 0)
	for i := range 6 {
		step(net.Poll, 1, 0, 0)
		if m := w.Mail(); i == 0 && (len(m) != 1 || m[0].From != 2 || m[0].To != 1 || len(m[0].Bytes) != 96) {
			t.Errorf("Mail = %+v", m)
		}
		if heard := step(net.Deliver, 0, 0, 0); heard.What != host.Answered {
			t.Errorf("round %d: %+v", i, heard)
		}
		want := host.Heard{What: host.Advanced}
		heard := step(net.Deliver, 0, 0, 0)
		if i > 3 {
			want = host.Heard{What: host.Told, Sample: api.Sample{At: int64(5 * i)}}
		}
		if !reflect.DeepEqual(heard, want) {
			t.Errorf("round %d: %+v, want %+v", i, heard, want)
		}
		if got := w.Host(1).Peers(); i == 4 && (len(got) != 1 || got[0] != (host.Peer{Addr: 1, Name: "h0", Want: "h0", Bits: 15, Samples: 1})) {
			t.Errorf("Peers = %+v", got)
		}
		step(net.Tick, 0, 0, 5)
	}
	now, _ := w.Shows(1)
	if offset, e := w.Host(1).Choose(now); offset != 0 || e != api.OK {
		t.Errorf("Choose = %d, %v", offset, e)
	}
	step(net.Poll, 1, 0, 0)
	wantStep(t, w, net.Step{Kind: net.Poll, A: 1, Draws: drawsOf(line)}, api.ErrOld)
	wantStep(t, w, net.Step{Kind: net.Deliver, A: 7}, api.ErrStep)
}
