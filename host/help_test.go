package host_test

import (
	"bytes"
	"crypto/sha256"
	"encoding/binary"
	"fmt"
	"math/rand"
	"reflect"
	"slices"
	"sync"
	"testing"

	"clepsydra/api"
	"clepsydra/cert"
	"clepsydra/der"
	"clepsydra/host"
	"clepsydra/iff"
	"clepsydra/keys"
	"clepsydra/nat"
	"clepsydra/pkey"
	"clepsydra/values"
	"clepsydra/wire"
)

// All certificates of the tests are valid from one second to another, and nearly all tests happen at second 1500.
const (
	validFrom = 1000
	validTo   = 2000
	begin     = uint64(1500)<<32 + 0x01020304
	second    = uint64(1) << 32
)

// secret is that of all groups in the tests.
const secret = 77

// drawn is as many bytes as are said, none of them 0, the same ones in each run.
func drawn(seed int64, n int) []byte {
	b := make([]byte, n)
	r := rand.New(rand.NewSource(seed))
	for i := range b {
		b[i] = byte(1 + r.Intn(255))
	}
	return b
}

// key is a key of as many binary digits as are said, the same one for the same seed.
func key(digits int, seed int64) api.Key {
	k, _, e := pkey.Draw(drawn(seed, 200000), digits, 65537)
	if e != api.OK {
		panic(e)
	}
	return k
}

// smallKeys are a few keys of the least size that a host's may have.
var smallKeys = sync.OnceValue(func() []api.Key {
	var l []api.Key
	for i := range int64(4) {
		l = append(l, key(216, i))
	}
	return l
})

// keyAt is the key of host i of a group: there are four, of which each serves several hosts.
func keyAt(i int) api.Key { return smallKeys()[i%4] }

// name is that of host i.
func name(i int) string { return fmt.Sprintf("h%d", i) }

// addr is the address of host i: each of its bytes is another one.
func addr(i int) uint32 { return 0x01020304 + uint32(i)*0x10101010 }

// params are small right parameters.
func params() api.Params {
	return api.Params{P: nat.Of(2039), Q: nat.Of(1019), G: nat.Of(4)}
}

// face is the face of the secret.
func face() api.Nat {
	v, e := iff.Face(params(), nat.Of(secret))
	if e != api.OK {
		panic(e)
	}
	return v
}

// certBy is a certificate of host i, signed by host j.
func certBy(i, j, usage int) api.Cert {
	k := keyAt(i)
	c, e := cert.Sign(keyAt(j), api.Cert{Serial: uint32(i), Issuer: name(j), Subject: name(i), From: validFrom, To: validTo, N: k.N, E: k.E, Usage: usage})
	if e != api.OK {
		panic(e)
	}
	return c
}

// certs are those of the hosts 0 to i: that of host 0 is its own, each other one is made by the host ahead.
func certs(i int) []api.Cert {
	l := []api.Cert{certBy(0, 0, api.UseTrusted)}
	for j := 1; j <= i; j++ {
		l = append(l, certBy(j, j-1, 0))
	}
	return l
}

// config is the configuration of host i of a group whose hosts trust h0, with the certificates of the hosts up to it.
func config(i int, bound bool) host.Config {
	return host.Config{
		Addr: addr(i), Name: name(i), Key: keyAt(i), Certs: certs(i), P: params(), Secret: nat.Of(secret), Face: face(),
		Trusted: []string{"h0"}, Seed: 0xa0b0c0d0 + uint32(i), Bound: bound, Stratum: i%15 + 1,
	}
}

// made is a host of a configuration.
func made(t *testing.T, c host.Config) *host.Host {
	t.Helper()
	h, e := host.New(c)
	if h == nil || e != api.OK {
		t.Fatalf("New of %s = %v, %v", c.Name, h, e)
	}
	return h
}

// textOf is a key's text, byte by byte: a TagSeq of two TagInts.
func textOf(k api.Key) []byte {
	var all []byte
	for _, n := range []api.Nat{k.N, k.E} {
		b, e := nat.Write(n, nat.Bits(n)/8+1)
		if e != api.OK {
			panic(e)
		}
		all = append(append(append(all, 2), lengthOf(len(b))...), b...)
	}
	return append(append([]byte{48}, lengthOf(len(all))...), all...)
}

// lengthOf is a length below 65536 as der writes it.
func lengthOf(n int) []byte {
	switch {
	case n < 128:
		return []byte{byte(n)}
	case n < 256:
		return []byte{129, byte(n)}
	}
	return []byte{130, byte(n >> 8), byte(n)}
}

// faceOf is the first 16 bytes of a text's digest, as the library makes it.
func faceOf(text []byte) []byte {
	sum := sha256.Sum256(text)
	return sum[:16]
}

// cookieOf is the cookie that a host has for a client.
func cookieOf(c host.Config, client host.Config) uint32 {
	if c.Bound {
		return keys.Bound(client.Addr, c.Addr, c.Seed, faceOf(textOf(client.Key)))
	}
	return keys.Cookie(client.Addr, c.Addr, c.Seed)
}

// written is a packet's bytes.
func written(t *testing.T, p api.Packet) []byte {
	t.Helper()
	b, e := wire.Write(p)
	if e != api.OK {
		t.Fatalf("Write(%+v): %v", p, e)
	}
	return b
}

// sealed is a packet's bytes with a Mac.
func sealed(t *testing.T, p api.Packet, from, to, id, cookie uint32) []byte {
	t.Helper()
	p.Mac = api.Mac{}
	sum := keys.Mac(keys.Session(from, to, id, cookie), written(t, p))
	p.Mac = api.Mac{Has: true, Key: id, Sum: sum}
	return written(t, p)
}

// read is the packet of some bytes.
func read(t *testing.T, b []byte) api.Packet {
	t.Helper()
	p, fault := wire.Read(b)
	if fault.Code != api.OK {
		t.Fatalf("Read(%x): %v", b, fault)
	}
	return p
}

// polled is the bytes of a request.
func polled(t *testing.T, h *host.Host, server uint32, now uint64, draws []byte) []byte {
	t.Helper()
	b, e := h.Poll(server, now, draws)
	if e != api.OK {
		t.Fatalf("Poll: %v", e)
	}
	return b
}

// received is what a packet comes to that is not refused.
func received(t *testing.T, h *host.Host, from uint32, b []byte, now uint64, draws []byte) host.Heard {
	t.Helper()
	heard, e := h.Receive(from, b, now, draws)
	if e != api.OK {
		t.Fatalf("Receive(%+v): %v", read(t, b), e)
	}
	return heard
}

// pair is a client, which has an association with a server, the time that the client's clock shows, and how far the server's is behind.
type pair struct {
	clientIs, serverIs host.Config
	client, server     *host.Host
	now, behind        uint64
	turn               int64
}

// begun is a pair whose client has just begun its association.
func begun(t *testing.T, client, server host.Config) *pair {
	t.Helper()
	p := &pair{clientIs: client, serverIs: server, client: made(t, client), server: made(t, server), now: begin}
	if e := p.client.Call(server.Addr, server.Name, p.now); e != api.OK {
		t.Fatalf("Call: %v", e)
	}
	return p
}

// plain is a pair of the hosts 1 and 0 of a group.
func plain(t *testing.T, bound bool) *pair {
	t.Helper()
	return begun(t, config(1, bound), config(0, bound))
}

// ask is the next request of the client, a second behind the one ahead.
func (p *pair) ask(t *testing.T) []byte {
	t.Helper()
	p.now += second
	p.turn++
	return polled(t, p.client, p.serverIs.Addr, p.now, drawn(p.turn, 64))
}

// reply is the server's answer to a request.
func (p *pair) reply(t *testing.T, request []byte) []byte {
	t.Helper()
	p.turn++
	heard := received(t, p.server, p.clientIs.Addr, request, p.now-p.behind, drawn(p.turn, 64))
	if heard.What != host.Answered || heard.Sample != (api.Sample{}) {
		t.Fatalf("Receive of a request: %+v", heard)
	}
	return heard.Out
}

// hear is what the client hears of an answer.
func (p *pair) hear(t *testing.T, answer []byte) host.Heard {
	t.Helper()
	return received(t, p.client, p.serverIs.Addr, answer, p.now, nil)
}

// round is a request, its answer, and what the client hears of it.
func (p *pair) round(t *testing.T) host.Heard {
	t.Helper()
	return p.hear(t, p.reply(t, p.ask(t)))
}

// upTo lets rounds go by till the client has some bits.
func (p *pair) upTo(t *testing.T, bits int) *pair {
	t.Helper()
	for range 40 {
		if p.client.Peers()[0].Bits == bits {
			return p
		}
		if heard := p.round(t); heard.What != host.Advanced {
			t.Fatalf("a round: %+v", heard)
		}
	}
	t.Fatalf("no bits %d: %+v", bits, p.client.Peers())
	return nil
}

// answerTo is an answer to a request as a server may make it, without fields and a Mac.
func (p *pair) answerTo(t *testing.T, request []byte) api.Packet {
	t.Helper()
	return api.Packet{Version: 4, Mode: api.ModeServer, Stratum: 1, Org: read(t, request).Xmt, Rec: p.now, Xmt: p.now}
}

// sealAnswer is an answer's bytes, sealed by a cookie and by the request's key number.
func (p *pair) sealAnswer(t *testing.T, request []byte, answer api.Packet, cookie uint32) []byte {
	t.Helper()
	return sealed(t, answer, p.serverIs.Addr, p.clientIs.Addr, read(t, request).Mac.Key, cookie)
}

// signedField is a field of an answer with a value that is signed by a key.
func signedField(t *testing.T, k api.Key, op int, ts uint32, value []byte) api.Ext {
	t.Helper()
	v, e := values.Sign(k, api.Value{TS: ts, Data: value})
	if e != api.OK {
		t.Fatalf("Sign: %v", e)
	}
	return api.Ext{Op: op, Resp: true, TS: ts, Value: value, Sig: v.Sig}
}

// state is all that a host shows.
type state struct {
	Peers []host.Peer
	Certs []api.Cert
}

// stateOf is what a host shows now.
func stateOf(h *host.Host) state { return state{h.Peers(), h.Certs()} }

// wantSame fails, if a host shows anything else than it did.
func wantSame(t *testing.T, h *host.Host, before state) {
	t.Helper()
	if after := stateOf(h); !reflect.DeepEqual(after, before) {
		t.Fatalf("what was refused has changed\n%+v to\n%+v", before, after)
	}
}

// wantRefused fails, if a packet is not refused with an error, or has changed anything.
func wantRefused(t *testing.T, h *host.Host, from uint32, b []byte, now uint64, draws []byte, want api.Errno) {
	t.Helper()
	before := stateOf(h)
	heard, e := h.Receive(from, b, now, draws)
	if e != want || !reflect.DeepEqual(heard, host.Heard{}) {
		t.Fatalf("Receive = %+v, %v, want %v", heard, e, want)
	}
	wantSame(t, h, before)
}

// sameCerts tells whether two lists have the same certificates.
func sameCerts(a, b []api.Cert) bool {
	return slices.EqualFunc(a, b, func(x, y api.Cert) bool { return bytes.Equal(certBytes(x), certBytes(y)) })
}

// certBytes is a right certificate's bytes.
func certBytes(c api.Cert) []byte {
	b, e := cert.Write(c)
	if e != api.OK {
		panic(e)
	}
	return b
}

// four is a number's four bytes, as the library writes them.
func four(n uint32) []byte { return binary.BigEndian.AppendUint32(nil, n) }

// seqOf is the bytes of a value of some tag with kids.
func seqOf(tag int, kids ...api.Node) []byte {
	b, e := der.Write(api.Node{Tag: tag, Kids: kids})
	if e != api.OK {
		panic(e)
	}
	return b
}

// kept is a copy of a list with others behind its end, and what tells whether all of it is as it was.
func kept[T uint64 | byte](l []T) ([]T, func() bool) {
	whole := slices.Concat(l, []T{5, 255, 6, 1, 2, 3})
	before := slices.Clone(whole)
	return whole[:len(l)], func() bool { return slices.Equal(whole, before) }
}

// fill writes over all of a list's memory.
func fill[T uint64 | byte](l []T) {
	for i := range l[:cap(l)] {
		l[:cap(l)][i] = 0x5c
	}
}

// encrypted is a text that is encrypted for a key.
func encrypted(t *testing.T, k api.Key, text []byte) []byte {
	t.Helper()
	b, e := pkey.Encrypt(k, text, drawn(77, 200))
	if e != api.OK {
		t.Fatalf("Encrypt: %v", e)
	}
	return b
}
