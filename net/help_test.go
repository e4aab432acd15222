package net_test

import (
	"bytes"
	"fmt"
	"math/rand"
	"reflect"
	"slices"
	"sync"
	"testing"

	"clepsydra/api"
	"clepsydra/cert"
	"clepsydra/der"
	"clepsydra/host"
	"clepsydra/iff"
	"clepsydra/nat"
	"clepsydra/net"
	"clepsydra/pkey"
	"clepsydra/wire"
)

// second is a second in units.
const second = int64(1) << 32

// drawn is as many bytes as are said, none of them 0, the same ones in each run.
func drawn(seed int64, n int) []byte {
	b := make([]byte, n)
	r := rand.New(rand.NewSource(seed))
	for i := range b {
		b[i] = byte(1 + r.Intn(255))
	}
	return b
}

// someKeys are a few keys, of which each serves several hosts.
var someKeys = sync.OnceValue(func() []api.Key {
	var l []api.Key
	for i := range int64(3) {
		k, _, e := pkey.Draw(drawn(i, 20000), 216, 65537)
		if e != api.OK {
			panic(e)
		}
		l = append(l, k)
	}
	return l
})

// keyAt is the key of host i, in memory of its own.
func keyAt(i int) api.Key {
	k := someKeys()[i%3]
	return api.Key{N: slices.Clone(k.N), E: slices.Clone(k.E), D: slices.Clone(k.D)}
}

// name is that of host i.
func name(i int) string { return fmt.Sprintf("h%d", i) }

// addr is the address of host i: no two hosts' numbers and addresses are alike.
func addr(i int) uint32 { return 0x0a000100 + uint32(i) }

// chain is the certificates of the hosts 0 to i: that of host 0 is its own, each other one is made by the host ahead.
func chain(i int) []api.Cert {
	var l []api.Cert
	for j := range i + 1 {
		by, usage := max(j-1, 0), 0
		if j == 0 {
			usage = api.UseTrusted
		}
		k := keyAt(j)
		c, e := cert.Sign(keyAt(by), api.Cert{Serial: uint32(j), Issuer: name(by), Subject: name(j), To: 1<<32 - 1, N: k.N, E: k.E, Usage: usage})
		if e != api.OK {
			panic(e)
		}
		l = append(l, c)
	}
	return l
}

// configs are the configurations of n hosts that are configured for each other.
func configs(n int, bound bool) []host.Config {
	group := api.Params{P: nat.Of(2039), Q: nat.Of(1019), G: nat.Of(4)}
	face, e := iff.Face(group, nat.Of(77))
	if e != api.OK {
		panic(e)
	}
	var l []host.Config
	for i := range n {
		l = append(l, host.Config{
			Addr: addr(i), Name: name(i), Key: keyAt(i), Certs: chain(min(i, 15)), P: group, Secret: nat.Of(77), Face: face,
			Trusted: []string{"h0"}, Seed: uint32(100 + i), Bound: bound, Stratum: i%15 + 1,
		})
	}
	return l
}

// clocks are n clocks, none of which shows the same, or goes as fast as another one.
func clocks(n int) []net.Clock {
	var l []net.Clock
	for i := range n {
		l = append(l, net.Clock{Begin: 1<<40 + uint64(i)*12345, Rate: int64(i%33 - 16)})
	}
	return l
}

// world is one of n hosts.
func world(t *testing.T, n int, bound bool) *net.World {
	t.Helper()
	w, e := net.New(configs(n, bound), clocks(n))
	if w == nil || e != api.OK {
		t.Fatalf("New = %v, %v", w, e)
	}
	return w
}

// do does a step that is not refused.
func do(t *testing.T, w *net.World, s net.Step) host.Heard {
	t.Helper()
	heard, e := w.Do(s)
	if e != api.OK {
		t.Fatalf("Do(%+v): %v", s, e)
	}
	return heard
}

// wantStep fails, if a step is not answered by an error, or by OK and nothing.
func wantStep(t *testing.T, w *net.World, s net.Step, want api.Errno) {
	t.Helper()
	if heard, e := w.Do(s); e != want || !reflect.DeepEqual(heard, host.Heard{}) {
		t.Fatalf("Do(%+v) = %+v, %v, want %v", s, heard, e, want)
	}
}

// ask lets a second go by, and then host a ask host b: the packet is the last one on its way.
func ask(t *testing.T, w *net.World, a, b int, seed int64) {
	t.Helper()
	do(t, w, net.Step{Kind: net.Tick, N: second})
	do(t, w, net.Step{Kind: net.Poll, A: a, B: b, Draws: drawn(seed, 20)})
}

// round lets host a ask host b, with nothing else on its way, and is what it hears of the answer, which comes back after some time.
func round(t *testing.T, w *net.World, a, b int, seed, way int64) host.Heard {
	t.Helper()
	ask(t, w, a, b, seed)
	do(t, w, net.Step{Kind: net.Tick, N: way})
	if heard := do(t, w, net.Step{Kind: net.Deliver, Draws: drawn(seed+1, 64)}); heard.What != host.Answered {
		t.Fatalf("a request: %+v", heard)
	}
	do(t, w, net.Step{Kind: net.Tick, N: way})
	return do(t, w, net.Step{Kind: net.Deliver})
}

// upTo lets host a ask host b till it has some bits.
func upTo(t *testing.T, w *net.World, a, b, bits int) {
	t.Helper()
	for seed := range int64(30) {
		if w.Host(a).Peers()[0].Bits == bits {
			return
		}
		round(t, w, a, b, seed, 0)
	}
	t.Fatalf("no bits %d: %+v", bits, w.Host(a).Peers())
}

// state is all that a world shows.
type state struct {
	Now   int64
	Shows []uint64
	Mail  []net.Mail
	Log   []net.Event
	Peers [][]host.Peer
	Certs [][]api.Cert
}

// stateOf is what a world shows now.
func stateOf(w *net.World) state {
	s := state{Now: w.Now(), Mail: w.Mail(), Log: w.Log()}
	for i := 0; w.Host(i) != nil; i++ {
		shown, _ := w.Shows(i)
		s.Shows, s.Peers, s.Certs = append(s.Shows, shown), append(s.Peers, w.Host(i).Peers()), append(s.Certs, w.Host(i).Certs())
	}
	return s
}

// wantSame fails, if a world shows anything else than it is said.
func wantSame(t *testing.T, w *net.World, want state) {
	t.Helper()
	got := stateOf(w)
	// A list without elements may be nil or empty.
	if len(got.Mail) == 0 && len(want.Mail) == 0 {
		got.Mail, want.Mail = nil, nil
	}
	if len(got.Log) == 0 && len(want.Log) == 0 {
		got.Log, want.Log = nil, nil
	}
	if !reflect.DeepEqual(got, want) {
		t.Fatalf("the world shows\n%+v, not\n%+v", got, want)
	}
}

// sameEvent tells whether two events have the same in each field.
func sameEvent(a, b net.Event) bool {
	return a.Kind == b.Kind && a.Host == b.Host && a.Peer == b.Peer && a.At == b.At && bytes.Equal(a.Bytes, b.Bytes)
}

// wantLog fails, if the log has not just some events behind those that it had.
func wantLog(t *testing.T, w *net.World, ahead int, want ...net.Event) {
	t.Helper()
	if got := w.Log()[ahead:]; !slices.EqualFunc(got, want, sameEvent) {
		t.Fatalf("the log is %+v, want %+v", got, want)
	}
}

// wantMail fails, if not just some packets are on their way.
func wantMail(t *testing.T, w *net.World, want ...net.Mail) {
	t.Helper()
	if got := w.Mail(); !slices.EqualFunc(got, want, func(a, b net.Mail) bool {
		return a.From == b.From && a.To == b.To && bytes.Equal(a.Bytes, b.Bytes)
	}) {
		t.Fatalf("on their way are %+v, want %+v", got, want)
	}
}

// read is the packet of some bytes.
func read(t *testing.T, b []byte) api.Packet {
	t.Helper()
	p, fault := wire.Read(b)
	if fault.Code != api.OK {
		t.Fatalf("Read: %v", fault)
	}
	return p
}

// textOf is a key's text.
func textOf(k api.Key) []byte {
	b, e := der.Write(api.Node{Tag: api.TagSeq, Kids: []api.Node{der.Nat(k.N), der.Nat(k.E)}})
	if e != api.OK {
		panic(e)
	}
	return b
}
