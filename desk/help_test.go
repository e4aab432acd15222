package desk_test

import (
	"crypto/sha256"
	"encoding/asn1"
	"encoding/binary"
	"fmt"
	"math/big"
	"slices"
	"strings"
	"testing"

	"clepsydra/api"
	"clepsydra/audit"
	"clepsydra/cert"
	"clepsydra/desk"
	"clepsydra/host"
	"clepsydra/iff"
	"clepsydra/keys"
	"clepsydra/nat"
	"clepsydra/net"
	"clepsydra/values"
	"clepsydra/wire"
)

// natOf is the library's number as limbs.
func natOf(n *big.Int) api.Nat {
	b := n.FillBytes(make([]byte, (n.BitLen()+63)/64*8))
	var out api.Nat
	for ; len(b) > 0; b = b[:len(b)-8] {
		out = append(out, binary.BigEndian.Uint64(b[len(b)-8:]))
	}
	return out
}

// mersenne is two to the n, less one.
func mersenne(n uint) *big.Int {
	return new(big.Int).Sub(new(big.Int).Lsh(big.NewInt(1), n), big.NewInt(1))
}

// keyOf is the key of host i, by the library's numbers.
func keyOf(i int) api.Key {
	one, e := big.NewInt(1), big.NewInt(65537)
	p, q := mersenne(127), mersenne([]uint{107, 89}[i%2])
	phi := new(big.Int).Mul(new(big.Int).Sub(p, one), new(big.Int).Sub(q, one))
	return api.Key{N: natOf(new(big.Int).Mul(p, q)), E: natOf(e), D: natOf(new(big.Int).ModInverse(e, phi))}
}

// textOf is the text of the key of host i.
func textOf(i int) []byte { return textBy([]uint{107, 89}[i%2], 65537) }

// textBy is the text of a key, whose other prime and E are said, as the library writes it.
func textBy(power uint, e int64) []byte {
	b, err := asn1.Marshal(struct{ N, E *big.Int }{new(big.Int).Mul(mersenne(127), mersenne(power)), big.NewInt(e)})
	if err != nil {
		panic(err)
	}
	return b
}

// chain is the certificates of the hosts 0 to i.
func chain(i int) []api.Cert {
	var l []api.Cert
	for j := range i + 1 {
		by, usage := max(j-1, 0), 0
		if j == 0 {
			usage = 1
		}
		k := keyOf(j)
		c, e := cert.Sign(keyOf(by), api.Cert{Serial: uint32(j), Issuer: fmt.Sprint("h", by), Subject: fmt.Sprint("h", j), From: 0, To: 1<<32 - 1, N: k.N, E: k.E, Usage: usage})
		if e != api.OK {
			panic(e)
		}
		l = append(l, c)
	}
	return l
}

// standard is the standard world as its words say.
func standard(n int, bound bool) ([]host.Config, []net.Clock) {
	// The face is the inverse of G to the secret, modulo P.
	p := big.NewInt(2039)
	face := new(big.Int).Exp(big.NewInt(4), big.NewInt(77), p)
	face.ModInverse(face, p)
	var l []host.Config
	var clocks []net.Clock
	for i := range n {
		l = append(l, host.Config{
			Addr: uint32(i) + 1, Name: fmt.Sprint("h", i), Key: keyOf(i), Certs: chain(i),
			P: api.Params{P: nat.Of(2039), Q: nat.Of(1019), G: nat.Of(4)}, Secret: nat.Of(77), Face: natOf(face),
			Trusted: []string{"h0"}, Seed: uint32(i), Bound: bound, Stratum: i + 1,
		})
		clocks = append(clocks, net.Clock{Begin: 1 << 40, Rate: int64(i)})
	}
	return l, clocks
}

// rawDrawsOf are the draws of a script's line, by the library's digests, with their noughts.
func rawDrawsOf(line int) []byte {
	var out []byte
	for i := range uint32(2) {
		sum := sha256.Sum256(binary.BigEndian.AppendUint32(binary.BigEndian.AppendUint32(nil, uint32(line)), i))
		out = append(out, sum[:]...)
	}
	return out
}

// drawsOf are the draws of a script's line.
func drawsOf(line int) []byte {
	out := rawDrawsOf(line)
	for i, b := range out {
		if b == 0 {
			out[i] = 1
		}
	}
	return out
}

// lineOf is a step's line, as the library prints it.
func lineOf(s net.Step) string {
	switch s.Kind {
	case net.Tick:
		return fmt.Sprintf("tick %d", s.N)
	case net.Call:
		return fmt.Sprintf("call %d %d", s.A, s.B)
	case net.Poll:
		return fmt.Sprintf("poll %d %d", s.A, s.B)
	case net.Deliver:
		return fmt.Sprintf("deliver %d", s.A)
	case net.Drop:
		return fmt.Sprintf("drop %d", s.A)
	case net.Dup:
		return fmt.Sprintf("dup %d", s.A)
	case net.Inject:
		if len(s.Bytes) == 0 {
			return fmt.Sprintf("inject %d %d -", s.From, s.To)
		}
		return fmt.Sprintf("inject %d %d %x", s.From, s.To, s.Bytes)
	case net.Restart:
		return fmt.Sprintf("restart %d %d", s.A, s.N)
	}
	panic("no step")
}

// play is a script, and what a world of the same hosts tells of it line by line.
type play struct {
	n            int
	bound        bool
	world        *net.World
	faces        []audit.Face
	script, told []string
}

// begun is a play of no lines.
func begun(t *testing.T, n int, bound bool) *play {
	t.Helper()
	l, clocks := standard(n, bound)
	w, e := net.New(l, clocks)
	if e != api.OK {
		t.Fatalf("New: %v", e)
	}
	p := &play{n: n, bound: bound, world: w}
	for i := range n {
		p.faces = append(p.faces, audit.Face{Addr: uint32(i) + 1, Text: textOf(i)})
	}
	return p
}

// tell puts a line to the script, and what is told of it.
func (p *play) tell(line, told string, e api.Errno) {
	if e != api.OK {
		told = fmt.Sprintf("error %d", int(e))
	}
	p.script, p.told = append(p.script, line), append(p.told, told)
}

// do does a step in the world, with the draws of its line.
func (p *play) do(s net.Step) (host.Heard, api.Errno) {
	s.Draws = drawsOf(len(p.script))
	heard, e := p.world.Do(s)
	told := "ok"
	if s.Kind == net.Deliver {
		told = fmt.Sprintf("ok %d", heard.What)
	}
	if heard.What == host.Told {
		told = fmt.Sprintf("ok 3 %d %d", heard.Sample.Offset, heard.Sample.Delay)
	}
	p.tell(lineOf(s), told, e)
	return heard, e
}

// look puts a line that asks to the script.
func (p *play) look(word string, i int) {
	told := "ok"
	switch word {
	case "peers":
		if p.world.Host(i) == nil {
			p.tell(fmt.Sprint("peers ", i), "", api.ErrStep)
			return
		}
		for _, x := range p.world.Host(i).Peers() {
			told += fmt.Sprintf(" %d/%d/%d", x.Addr, x.Bits, x.Samples)
		}
		p.tell(fmt.Sprint("peers ", i), told, api.OK)
	case "mail":
		for _, m := range p.world.Mail() {
			told += fmt.Sprintf(" %d/%d/%d", m.From, m.To, len(m.Bytes))
		}
		p.tell("mail", told, api.OK)
	case "choose":
		now, e := p.world.Shows(i)
		if e != api.OK {
			p.tell(fmt.Sprint("choose ", i), "", api.ErrStep)
			return
		}
		offset, e := p.world.Host(i).Choose(now)
		p.tell(fmt.Sprint("choose ", i), fmt.Sprintf("ok %d", offset), e)
	case "judge":
		for _, v := range audit.Judge(p.world.Log(), p.faces) {
			told += fmt.Sprintf(" %d/%d", v.Kind, v.At)
		}
		p.tell("judge", told, api.OK)
	}
}

// must does a step that is not refused.
func (p *play) must(t *testing.T, s net.Step) host.Heard {
	t.Helper()
	heard, e := p.do(s)
	if e != api.OK {
		t.Fatalf("%s: %v", lineOf(s), e)
	}
	return heard
}

// round lets host a ask host b, with nothing else on its way, and tells what comes of the answer.
func (p *play) round(t *testing.T, a, b int) host.Heard {
	t.Helper()
	p.must(t, net.Step{Kind: net.Tick, N: 1 << 32})
	p.must(t, net.Step{Kind: net.Poll, A: a, B: b})
	p.must(t, net.Step{Kind: net.Deliver})
	return p.must(t, net.Step{Kind: net.Deliver})
}

// upTo lets host a ask host b till it has all bits.
func (p *play) upTo(t *testing.T, a, b int) {
	t.Helper()
	p.must(t, net.Step{Kind: net.Call, A: a, B: b})
	for range b + 4 {
		p.round(t, a, b)
	}
	if l := p.world.Host(a).Peers(); l[len(l)-1].Bits != 15 {
		t.Fatalf("Peers = %+v", l)
	}
}

// wantTold fails, if the script tells anything else than the world did.
func (p *play) wantTold(t *testing.T) {
	t.Helper()
	wantRun(t, p.n, p.bound, strings.Join(p.script, "\n")+"\n", p.told...)
}

// wantRun fails, if a script does not tell these lines.
func wantRun(t *testing.T, n int, bound bool, script string, lines ...string) {
	t.Helper()
	want := ""
	for _, l := range lines {
		want += l + "\n"
	}
	got, e := desk.Run(n, bound, script)
	if e == api.OK && got == want {
		return
	}
	told, asked := strings.Split(got, "\n"), strings.Split(script, "\n")
	for i, l := range lines {
		if e != api.OK || i >= len(told) || told[i] != l {
			t.Fatalf("Run: %v; line %d, %.100q, of %d: %.300q, want %q", e, i, asked[i], len(asked), append(told, "")[min(i, len(told))], l)
		}
	}
	t.Fatalf("Run = %.300q, %v, want %.300q", got, e, want)
}

// sealed is a packet's bytes with a Mac.
func sealed(t *testing.T, p api.Packet, from, to, id, cookie uint32) []byte {
	t.Helper()
	front, e := wire.Write(p)
	if e != api.OK {
		t.Fatalf("Write: %v", e)
	}
	p.Mac = api.Mac{Has: true, Key: id, Sum: keys.Mac(keys.Session(from, to, id, cookie), front)}
	b, e := wire.Write(p)
	if e != api.OK {
		t.Fatalf("Write: %v", e)
	}
	return b
}

// read is the packet of some bytes.
func read(t *testing.T, b []byte) api.Packet {
	t.Helper()
	p, fault := wire.Read(b)
	if fault.Code != api.OK {
		t.Fatalf("Read: %v", fault)
	}
	return p
}

// proven is the answer that host 0 may give to a request of host 1 for a proof.
func proven(t *testing.T, request []byte) []byte {
	t.Helper()
	p := read(t, request)
	group, k := api.Params{P: nat.Of(2039), Q: nat.Of(1019), G: nat.Of(4)}, nat.Of(12345)
	y, e := iff.Answer(group, nat.Of(77), k, nat.Read(p.Exts[0].Value))
	if e != api.OK {
		t.Fatalf("Answer: %v", e)
	}
	mark, _ := iff.Mark(group, k)
	b, _ := nat.Write(y, 2)
	v, e := values.Sign(keyOf(0), api.Value{TS: 300, Data: append(b, mark...)})
	if e != api.OK {
		t.Fatalf("Sign: %v", e)
	}
	x := api.Ext{Op: api.OpIff, Resp: true, TS: v.TS, Value: v.Data, Sig: v.Sig}
	return sealed(t, api.Packet{Version: 4, Mode: api.ModeServer, Org: p.Xmt, Exts: []api.Ext{x}}, 1, 2, p.Mac.Key, 0)
}

// last is the last packet on its way.
func (p *play) last() net.Mail {
	l := p.world.Mail()
	return l[len(l)-1]
}

// fill writes over all of a list's memory.
func fill[T byte | uint64](l []T) {
	for i := range l[:cap(l)] {
		l[:cap(l)][i] = 0x5c
	}
}

// isStep tells whether two steps have the same in each field.
func isStep(a, b net.Step) bool {
	return a.Kind == b.Kind && a.A == b.A && a.B == b.B && a.N == b.N && a.From == b.From && a.To == b.To && slices.Equal(a.Bytes, b.Bytes) && slices.Equal(a.Draws, b.Draws)
}
