package host_test

import (
	"math/big"
	"reflect"
	"slices"
	"testing"

	"clepsydra/api"
	"clepsydra/cert"
	"clepsydra/host"
	"clepsydra/nat"
)

// P17.5: hearing.

// wantHeard fails, if an answer does not come to what is said, or the association is not as it is said then.
func (p *pair) wantHeard(t *testing.T, answer []byte, what, bits int, want string) {
	t.Helper()
	samples := p.client.Peers()[0].Samples
	if heard := p.hear(t, answer); !reflect.DeepEqual(heard, host.Heard{What: what}) {
		t.Fatalf("Receive = %+v, want %d", heard, what)
	}
	if got := p.client.Peers()[0]; got != (host.Peer{Addr: p.serverIs.Addr, Name: p.serverIs.Name, Want: want, Bits: bits, Samples: samples}) {
		t.Fatalf("Peers = %+v, want bits %d, wanted %s", got, bits, want)
	}
}

// wantRefused fails, if an answer is not refused with an error, each time that it comes.
func (p *pair) wantRefused(t *testing.T, answer []byte, want api.Errno) {
	t.Helper()
	wantRefused(t, p.client, p.serverIs.Addr, answer, p.now, drawn(1, 64), want)
	wantRefused(t, p.client, p.serverIs.Addr, answer, p.now, nil, want)
}

// fieldAnswer is an answer with some fields, sealed as all are that do not tell the time.
func (p *pair) fieldAnswer(t *testing.T, request []byte, x ...api.Ext) []byte {
	t.Helper()
	answer := p.answerTo(t, request)
	answer.Exts = x
	return p.sealAnswer(t, request, answer, 0)
}

// seal is the cookie by which an answer to the next request is sealed.
func (p *pair) seal() uint32 {
	if p.client.Peers()[0].Bits == 15 {
		return cookieOf(p.serverIs, p.clientIs)
	}
	return 0
}

// What holds for all answers, whatever was asked for.
func TestAnswersRefused(t *testing.T) {
	for _, bound := range []bool{false, true} {
		for _, bits := range []int{0, 1, 3, 7, 15} {
			p := plain(t, bound).upTo(t, bits)
			seal := p.seal()
			// Nothing was asked for yet, or it was answered.
			early := p.answerTo(t, written(t, api.Packet{Version: 4, Mode: 3, Xmt: p.now}))
			p.wantRefused(t, written(t, early), api.ErrOld)
			early.Mac = api.Mac{Has: true}
			p.wantRefused(t, written(t, early), api.ErrOld)
			request := p.ask(t)
			right := p.reply(t, request)
			answer := read(t, right)
			// Who is not asked, or asks himself, is not heard.
			for _, from := range []uint32{p.clientIs.Addr, 0, p.serverIs.Addr + 1} {
				wantRefused(t, p.client, from, right, p.now, nil, api.ErrPeer)
			}
			// An Org that is another one, also in a no.
			for _, org := range []uint64{0, answer.Org + 1, answer.Org - 1, answer.Org ^ 1<<63} {
				other := answer
				other.Org = org
				p.wantRefused(t, p.sealAnswer(t, request, other, seal), api.ErrOld)
				other.Mac = api.Mac{Has: true}
				p.wantRefused(t, written(t, other), api.ErrOld)
			}
			// No Mac, one of another key number or cookie, of another way, or with another sum.
			none := answer
			none.Mac = api.Mac{}
			p.wantRefused(t, written(t, none), api.ErrMac)
			id := read(t, request).Mac.Key
			from, to := p.serverIs.Addr, p.clientIs.Addr
			spoilt := slices.Clone(right)
			spoilt[len(spoilt)-16] ^= 1
			for _, b := range [][]byte{
				spoilt, sealed(t, answer, from, to, id+1, seal), sealed(t, answer, from, to, 0, seal), sealed(t, answer, from, to, id, seal+1), sealed(t, answer, to, from, id, seal), sealed(t, answer, from, to+1, id, seal),
			} {
				p.wantRefused(t, b, api.ErrMac)
			}
			if bits == 15 {
				p.wantRefused(t, p.sealAnswer(t, request, answer, 0), api.ErrMac)
			} else {
				p.wantRefused(t, p.sealAnswer(t, request, answer, cookieOf(p.serverIs, p.clientIs)), api.ErrMac)
				// A no, where the time was not asked for, whatever its key number.
				for _, key := range []uint32{0, id} {
					no := none
					no.Mac = api.Mac{Has: true, Key: key}
					p.wantRefused(t, written(t, no), api.ErrMac)
				}
			}
			// The right one is heard all the same; once.
			if heard := p.hear(t, right); heard.What != host.Advanced && bits != 15 || heard.What != host.Told && bits == 15 {
				t.Fatalf("bits %d: %+v", bits, heard)
			}
			p.wantRefused(t, right, api.ErrOld)
		}
	}
}

func TestHeardNo(t *testing.T) {
	for _, bound := range []bool{false, true} {
		for _, key := range []uint32{0, 7} {
			p := plain(t, bound).upTo(t, 15)
			p.round(t)
			request := p.ask(t)
			no := p.answerTo(t, request)
			no.Mac = api.Mac{Has: true, Key: key}
			if key == 7 {
				no.Exts = []api.Ext{{Op: 5}, {Op: 6}}
			}
			p.wantHeard(t, written(t, no), host.Rejected, 7, "h0")
			p.wantRefused(t, written(t, no), api.ErrOld)
			p.wantRefused(t, p.reply(t, request), api.ErrOld)
			// It asks for a cookie then.
			request = p.ask(t)
			if x := read(t, request).Exts; len(x) != 1 || x[0].Op != api.OpCookie {
				t.Fatalf("behind a no: %+v", x)
			}
			p.wantHeard(t, p.reply(t, request), host.Advanced, 15, "h0")
			if heard := p.round(t); heard.What != host.Told {
				t.Fatalf("behind a no: %+v", heard)
			}
		}
	}
}

// The fields of an answer, whatever was asked for but the time.
func TestFieldsRefused(t *testing.T) {
	for _, bits := range []int{0, 1, 3, 7} {
		p := plain(t, false).upTo(t, bits)
		request := p.ask(t)
		right := p.reply(t, request)
		x := read(t, right).Exts[0]
		otherOp, noResp, bad, badOther := x, x, x, x
		otherOp.Op, noResp.Resp, bad.Bad = x.Op%8+1, false, true
		badOther.Bad, badOther.Resp = true, false
		for _, c := range []struct {
			x    []api.Ext
			want api.Errno
		}{
			{nil, api.ErrExt}, {[]api.Ext{x, x}, api.ErrExt}, {[]api.Ext{x, otherOp}, api.ErrExt}, {[]api.Ext{otherOp}, api.ErrExt}, {[]api.Ext{noResp}, api.ErrExt}, {[]api.Ext{badOther}, api.ErrExt}, {[]api.Ext{bad}, api.ErrNone}, {[]api.Ext{{Op: x.Op, Resp: true, Bad: true}}, api.ErrNone}, {[]api.Ext{bad, bad}, api.ErrExt}, {[]api.Ext{{Op: api.OpBound, Resp: true}}, api.ErrExt},
		} {
			p.wantRefused(t, p.fieldAnswer(t, request, c.x...), c.want)
		}
		p.hear(t, right)
	}
}

func TestHeardAssoc(t *testing.T) {
	p := plain(t, false)
	request := p.ask(t)
	for _, value := range []string{"", "h1", "H0", "h", "h00", "h0\x00"} {
		p.wantRefused(t, p.fieldAnswer(t, request, api.Ext{Op: api.OpAssoc, Resp: true, Value: []byte(value)}), api.ErrCert)
	}
	// What is not asked for in a field plays no part.
	p.wantHeard(t, p.fieldAnswer(t, request, api.Ext{Op: api.OpAssoc, Resp: true, Assoc: 5, TS: 6, FS: 7, Value: []byte("h0"), Sig: []byte("any")}), host.Advanced, 1, "h0")
}

// certAnswer is an answer of a certificate's bytes.
func (p *pair) certAnswer(t *testing.T, request, b []byte) []byte {
	t.Helper()
	return p.fieldAnswer(t, request, api.Ext{Op: api.OpCert, Resp: true, Value: b})
}

func TestHeardCert(t *testing.T) {
	p := begun(t, config(0, false), config(2, false)).upTo(t, 1)
	request := p.ask(t)
	all := certs(2)
	whole := certBytes(all[2])
	for _, c := range []struct {
		b    []byte
		want api.Errno
	}{
		{nil, api.ErrShort}, {whole[:50], api.ErrShort}, {append(slices.Clone(whole), 0), api.ErrRest}, {[]byte{7, 0}, api.ErrTag}, {[]byte{5, 0}, api.ErrCert}, {[]byte{2, 1}, api.ErrShort}, {[]byte{2, 128}, api.ErrSize}, {[]byte{2, 2, 0, 1}, api.ErrValue},
		{certBytes(all[0]), api.ErrCert}, {certBytes(all[1]), api.ErrCert}, {certBytes(certBy(3, 2, 0)), api.ErrCert},
	} {
		p.wantRefused(t, p.certAnswer(t, request, c.b), c.want)
	}
	before := p.client.Certs()
	// A subject's is wanted, then its issuer's, and so on up to what is there.
	p.wantHeard(t, p.certAnswer(t, request, whole), host.Advanced, 1, "h1")
	if !sameCerts(p.client.Certs(), append(before, all[2])) {
		t.Errorf("Certs = %+v", p.client.Certs())
	}
	request = p.ask(t)
	p.wantRefused(t, p.certAnswer(t, request, whole), api.ErrCert)
	p.wantHeard(t, p.certAnswer(t, request, certBytes(all[1])), host.Advanced, 3, "h1")
	if !sameCerts(p.client.Certs(), append(before, all[2], all[1])) {
		t.Errorf("Certs = %+v", p.client.Certs())
	}
}

// Certificates that make no trail, and what is wanted behind them.
func TestHeardNoTrail(t *testing.T) {
	self := func(i, usage int) api.Cert { return certBy(i, i, usage) }
	spoilt := certBy(2, 0, 0)
	spoilt.Sig = slices.Clone(spoilt.Sig)
	spoilt.Sig[3] ^= 1
	late := certBy(2, 0, 0)
	late.From, late.To = 1502, 1600
	late, _ = cert.Sign(keyAt(0), late)
	over := late
	over.From, over.To = 1000, 1500
	over, _ = cert.Sign(keyAt(0), over)
	just := late
	just.From, just.To = 1502-1, 1502-1
	just, _ = cert.Sign(keyAt(0), just)
	for i, c := range []struct {
		trusted []string
		heard   api.Cert
		bits    int
		want    string
	}{
		{[]string{"h0"}, certBy(2, 0, 0), 3, "h2"}, {[]string{"h1", "h0"}, certBy(2, 0, 0), 3, "h2"}, {nil, certBy(2, 0, 0), 1, "h0"}, {[]string{"h1"}, certBy(2, 0, 0), 1, "h0"}, {[]string{"h2"}, certBy(2, 0, 0), 1, "h0"},
		// One that is its own: the server's is wanted again, if it may not be trusted.
		{[]string{"h0"}, self(2, 0), 1, "h2"}, {[]string{"h0"}, self(2, api.UseTrusted), 1, "h2"}, {[]string{"h2"}, self(2, api.UseTrusted), 3, "h2"}, {[]string{"h2"}, self(2, api.UseIdentity), 1, "h2"},
		{[]string{"h0"}, spoilt, 1, "h0"}, {[]string{"h0"}, certBy(2, 3, 0), 1, "h3"}, {[]string{"h0"}, late, 1, "h0"}, {[]string{"h0"}, over, 1, "h0"}, {[]string{"h0"}, just, 3, "h2"},
	} {
		t.Log(i)
		client := config(0, false)
		client.Trusted = c.trusted
		p := begun(t, client, config(2, false))
		// The first request at second 1500, this one at 1501.
		p.now -= second
		p.upTo(t, 1)
		request := p.ask(t)
		p.wantHeard(t, p.certAnswer(t, request, certBytes(c.heard)), host.Advanced, c.bits, c.want)
		if l := p.client.Certs(); len(l) != 2 || !sameCerts(l[1:], []api.Cert{c.heard}) {
			t.Errorf("Certs = %+v", l)
		}
	}
}

// A certificate of an issuer that is its own ends the search: it begins with the server's again.
func TestWantsServersAgain(t *testing.T) {
	client := config(0, false)
	client.Trusted = nil
	p := begun(t, client, config(2, false)).upTo(t, 1)
	for i, want := range []string{"h1", "h0", "h2", "h1", "h0", "h2"} {
		p.wantHeard(t, p.reply(t, p.ask(t)), host.Advanced, 1, want)
		if got := len(p.client.Certs()); got != min(i+2, 3) {
			t.Errorf("%d certificates", got)
		}
	}
}

// What the store refuses: one that is older than what it has, and one more than it has room for.
func TestHeardCertRefused(t *testing.T) {
	client := config(0, false)
	newer := certBy(2, 0, 0)
	newer.From++
	newer, _ = cert.Sign(keyAt(0), newer)
	client.Certs = append(client.Certs, newer)
	p := begun(t, client, config(2, false)).upTo(t, 1)
	request := p.ask(t)
	p.wantRefused(t, p.certAnswer(t, request, certBytes(certBy(2, 0, 0))), api.ErrArg)
	p.wantHeard(t, p.certAnswer(t, request, certBytes(newer)), host.Advanced, 3, "h2")

	server := config(0, false)
	server.Addr, server.Name = addr(40), name(40)
	p = begun(t, config(0, false), server).upTo(t, 1)
	for i := range api.MaxCerts - 1 {
		request := p.ask(t)
		p.wantHeard(t, p.certAnswer(t, request, certBytes(certBy(40-i, 39-i, 0))), host.Advanced, 1, name(39-i))
	}
	request = p.ask(t)
	p.wantRefused(t, p.certAnswer(t, request, certBytes(certBy(9, 8, 0))), api.ErrFull)
	p.wantRefused(t, p.certAnswer(t, request, certBytes(certBy(8, 7, 0))), api.ErrCert)
	if len(p.client.Certs()) != api.MaxCerts {
		t.Errorf("%d certificates", len(p.client.Certs()))
	}
}

// Out of its time a trail is none any more: what is signed is refused.
func TestSignedWithoutTrail(t *testing.T) {
	for _, bits := range []int{3, 7} {
		p := plain(t, false).upTo(t, bits)
		request := p.ask(t)
		right := p.reply(t, request)
		for _, now := range []uint64{0, validFrom*second - 1, (validTo + 1) * second} {
			wantRefused(t, p.client, addr(0), right, now, nil, api.ErrTrail)
		}
		p.now = validTo*second + second - 1
		p.wantHeard(t, right, host.Advanced, bits*2+1, "h0")
	}
}

// What is signed by another key, or of another value, is refused.
func TestSignedWrong(t *testing.T) {
	for _, bits := range []int{3, 7} {
		p := plain(t, false).upTo(t, bits)
		request := p.ask(t)
		right := read(t, p.reply(t, request)).Exts[0]
		for i, change := range []func(x *api.Ext){
			func(x *api.Ext) { x.TS++ }, func(x *api.Ext) { x.TS-- }, func(x *api.Ext) { x.FS = 1 }, func(x *api.Ext) { x.Value = append(slices.Clone(x.Value), 0) }, func(x *api.Ext) { x.Value = x.Value[1:] }, func(x *api.Ext) { x.Value = nil }, func(x *api.Ext) { x.Sig = nil },
			func(x *api.Ext) { x.Sig = append(slices.Clone(x.Sig), 0) }, func(x *api.Ext) { x.Sig = slices.Clone(x.Sig); x.Sig[20] ^= 4 }, func(x *api.Ext) { x.Value = slices.Clone(x.Value); x.Value[0] ^= 1 },
			func(x *api.Ext) { *x = signedField(t, keyAt(1), x.Op, x.TS, x.Value) }, func(x *api.Ext) { *x = signedField(t, keyAt(2), x.Op, 0, nil) },
		} {
			x := right
			change(&x)
			t.Log(bits, i)
			p.wantRefused(t, p.fieldAnswer(t, request, x), api.ErrSig)
		}
		x := right
		x.Assoc = 9
		p.wantHeard(t, p.fieldAnswer(t, request, x), host.Advanced, bits*2+1, "h0")
	}
}

// What was signed ahead of the last that was signed is old; what was signed in the same second is not.
func TestSignedOld(t *testing.T) {
	for _, c := range []struct {
		proof, cookie uint32
		want          api.Errno
	}{{1500, 1500, api.OK}, {1500, 1501, api.OK}, {1500, 1499, api.ErrOld}, {1500, 0, api.ErrOld}, {0, 0, api.OK}, {0, 1<<32 - 1, api.OK}, {1<<32 - 1, 1<<32 - 1, api.OK}, {1<<32 - 1, 1<<32 - 2, api.ErrOld}, {1 << 31, 1<<31 - 1, api.ErrOld}, {1, 0, api.ErrOld}} {
		p := plain(t, false).upTo(t, 3)
		request := p.ask(t)
		proof := read(t, p.reply(t, request)).Exts[0].Value
		p.wantHeard(t, p.fieldAnswer(t, request, signedField(t, keyAt(0), api.OpIff, c.proof, proof)), host.Advanced, 7, "h0")
		request = p.ask(t)
		hidden := encrypted(t, keyAt(1), []byte{1, 2, 3, 4})
		answer := p.fieldAnswer(t, request, signedField(t, keyAt(0), api.OpCookie, c.cookie, hidden))
		if c.want == api.OK {
			p.wantHeard(t, answer, host.Advanced, 15, "h0")
			continue
		}
		p.wantRefused(t, answer, c.want)
		// It is old ahead of being wrong.
		p.wantRefused(t, p.fieldAnswer(t, request, signedField(t, keyAt(0), api.OpCookie, c.cookie, nil)), c.want)
		p.wantHeard(t, p.fieldAnswer(t, request, signedField(t, keyAt(0), api.OpCookie, c.proof, hidden)), host.Advanced, 15, "h0")
	}
}

// A cookie's TS counts as the last one that was signed, too; one that was refused does not.
func TestCookieIsLastSigned(t *testing.T) {
	p := plain(t, false).upTo(t, 7)
	request := p.ask(t)
	hidden := encrypted(t, keyAt(1), []byte{1, 2, 3, 4})
	p.wantRefused(t, p.fieldAnswer(t, request, signedField(t, keyAt(0), api.OpCookie, 1900, hidden[1:])), api.ErrPad)
	p.wantHeard(t, p.fieldAnswer(t, request, signedField(t, keyAt(0), api.OpCookie, 1800, hidden)), host.Advanced, 15, "h0")
	request = p.ask(t)
	no := p.answerTo(t, request)
	no.Mac.Has = true
	p.wantHeard(t, written(t, no), host.Rejected, 7, "h0")
	request = p.ask(t)
	p.wantRefused(t, p.fieldAnswer(t, request, signedField(t, keyAt(0), api.OpCookie, 1799, hidden)), api.ErrOld)
	p.wantHeard(t, p.fieldAnswer(t, request, signedField(t, keyAt(0), api.OpCookie, 1800, hidden)), host.Advanced, 15, "h0")
}

func TestHeardProof(t *testing.T) {
	p := plain(t, false).upTo(t, 3)
	request := p.ask(t)
	question := new(big.Int).SetBytes(read(t, request).Exts[0].Value)
	right := proofOf(params(), big.NewInt(secret), big.NewInt(1234567), question)
	signed := func(value []byte) []byte {
		return p.fieldAnswer(t, request, signedField(t, keyAt(0), api.OpIff, 1500, value))
	}
	for _, c := range []struct {
		value []byte
		want  api.Errno
	}{
		{nil, api.ErrForm}, {right[:17], api.ErrForm}, {right[1:], api.ErrForm}, {append([]byte{0}, right...), api.ErrForm}, {append(slices.Clone(right), 0), api.ErrForm}, {make([]byte, 2048), api.ErrForm}, {make([]byte, 16), api.ErrForm},
		{make([]byte, 18), api.ErrParams}, {slices.Concat(right[:2], right[2:17], []byte{right[17] ^ 1}), api.ErrParams}, {slices.Concat([]byte{right[0], right[1] ^ 1}, right[2:]), api.ErrParams},
		// Of another secret, or to another question.
		{proofOf(params(), big.NewInt(secret+1), big.NewInt(1234567), question), api.ErrParams}, {proofOf(params(), big.NewInt(secret), big.NewInt(1234567), new(big.Int).Add(question, big.NewInt(1))), api.ErrParams},
	} {
		p.wantRefused(t, signed(c.value), c.want)
	}
	p.wantHeard(t, signed(right), host.Advanced, 7, "h0")
}

// What a client is configured with decides: without parameters, or with another face, nobody proves anything.
func TestProofConfigured(t *testing.T) {
	for i, c := range []struct {
		change func(c *host.Config)
		want   api.Errno
	}{
		{func(c *host.Config) { c.Face = nat.Add(c.Face, nat.Of(1)) }, api.ErrParams}, {func(c *host.Config) { c.Face = nil }, api.ErrParams}, {func(c *host.Config) { c.P.G = nat.Of(1) }, api.ErrParams}, {func(c *host.Config) { c.P.P = nil }, api.ErrParams},
		{func(c *host.Config) { c.P = api.Params{} }, api.ErrForm}, {func(c *host.Config) { c.P.Q = nat.Of(255) }, api.ErrForm}, {func(c *host.Config) { c.P.Q = nat.Of(1 << 16) }, api.ErrForm}, {func(c *host.Config) { c.P.Q = nat.Of(1<<16 - 1) }, api.ErrParams}, {func(c *host.Config) { c.P.Q = make(api.Nat, 1000) }, api.ErrForm},
		{func(c *host.Config) { c.Secret = nil }, api.OK}, {func(c *host.Config) { c.P.Q, c.Face = api.Nat{1019, 0, 0}, append(c.Face, 0) }, api.OK}, {func(c *host.Config) { c.Face = nat.Add(c.Face, c.P.P) }, api.OK},
	} {
		t.Log(i)
		client := config(1, false)
		c.change(&client)
		p := begun(t, client, config(0, false)).upTo(t, 3)
		request := p.ask(t)
		if c.want == api.OK {
			p.wantHeard(t, p.reply(t, request), host.Advanced, 7, "h0")
		} else {
			p.wantRefused(t, p.reply(t, request), c.want)
		}
	}
}

func TestHeardCookie(t *testing.T) {
	p := plain(t, false).upTo(t, 7)
	request := p.ask(t)
	signed := func(value []byte) []byte {
		return p.fieldAnswer(t, request, signedField(t, keyAt(0), api.OpCookie, 1600, value))
	}
	for _, c := range []struct {
		value []byte
		want  api.Errno
	}{
		{nil, api.ErrPad}, {make([]byte, 27), api.ErrPad}, {slices.Repeat([]byte{255}, 27), api.ErrPad}, {make([]byte, 2048), api.ErrPad}, {encrypted(t, keyAt(2), []byte{1, 2, 3, 4}), api.ErrPad}, {encrypted(t, keyAt(1), []byte{1, 2, 3, 4})[:26], api.ErrPad},
		{encrypted(t, keyAt(1), nil), api.ErrForm}, {encrypted(t, keyAt(1), []byte{1, 2, 3}), api.ErrForm}, {encrypted(t, keyAt(1), []byte{1, 2, 3, 4, 5}), api.ErrForm}, {encrypted(t, keyAt(1), make([]byte, 16)), api.ErrForm},
	} {
		p.wantRefused(t, signed(c.value), c.want)
	}
	p.wantHeard(t, signed(encrypted(t, keyAt(1), []byte{0, 0, 0, 0})), host.Advanced, 15, "h0")
}

// timeAnswer is an answer that tells the time.
func (p *pair) timeAnswer(t *testing.T, request []byte, change func(a *api.Packet)) []byte {
	t.Helper()
	answer := p.answerTo(t, request)
	change(&answer)
	return p.sealAnswer(t, request, answer, cookieOf(p.serverIs, p.clientIs))
}

func TestHeardTime(t *testing.T) {
	for i, c := range []struct {
		rec, xmt int64 // how far the server's clock is ahead of the request's time
		back     int64 // when the answer comes back
		disp     uint32
		want     api.Sample
	}{
		{0, 0, 0, 0, api.Sample{}}, {7, 7, 4, 0, api.Sample{Offset: 5, Delay: 4}}, {7, 9, 4, 0, api.Sample{Offset: 6, Delay: 2}}, {-3, -3, 0, 0, api.Sample{Offset: -3}}, {-3, -4, 0, 1, api.Sample{Offset: -4, Delay: 1, Disp: 65536}}, {1 << 50, 1<<50 + 5, 1 << 40, 0xffffffff, api.Sample{Offset: 1<<50 - 1<<39 + 2, Delay: 1<<40 - 5, Disp: 0xffffffff << 16}},
		{-1 << 60, -1 << 60, 0, 65536, api.Sample{Offset: -1 << 60, Disp: 1 << 32}}, {1 << 60, 1 << 60, 0, 1 << 31, api.Sample{Offset: 1 << 60, Disp: 1 << 47}}, {1 << 58, 1 << 58, 1 << 59, 0, api.Sample{Delay: 1 << 59}}, {0, -1 << 60, 0, 0, api.Sample{Offset: -1 << 59, Delay: 1 << 60}},
	} {
		p := plain(t, i%2 == 0).upTo(t, 15)
		request := p.ask(t)
		asked := p.now
		p.now += uint64(c.back)
		c.want.At = int64(p.now - begin)
		answer := p.timeAnswer(t, request, func(a *api.Packet) {
			// What is not named plays no part: the server's stratum, its own Delay and others.
			a.Leap, a.Stratum, a.Poll, a.Prec, a.Delay, a.RefID, a.Ref = 3, 16, 17, -7, 1<<31, 5, 1<<63
			a.Rec, a.Xmt, a.Disp = asked+uint64(c.rec), asked+uint64(c.xmt), c.disp
		})
		for range 2 {
			wantRefused(t, p.client, addr(2), answer, p.now, nil, api.ErrPeer)
		}
		if heard := p.hear(t, answer); !reflect.DeepEqual(heard, host.Heard{What: host.Told, Sample: c.want}) {
			t.Errorf("%d: %+v, want %+v", i, heard, c.want)
		}
		if got := p.client.Peers()[0]; got != (host.Peer{Addr: addr(0), Name: "h0", Want: "h0", Bits: 15, Samples: 1}) {
			t.Errorf("%d: %+v", i, got)
		}
		p.wantRefused(t, answer, api.ErrOld)
	}
}

func TestTimeRefused(t *testing.T) {
	p := plain(t, false).upTo(t, 15)
	request := p.ask(t)
	asked := p.now
	for i, c := range []struct {
		change func(a *api.Packet)
		want   api.Errno
	}{
		{func(a *api.Packet) { a.Exts = []api.Ext{{Op: api.OpBound, Resp: true}} }, api.ErrExt}, {func(a *api.Packet) { a.Exts = []api.Ext{{Op: api.OpAssoc, Resp: true, Bad: true}} }, api.ErrExt}, {func(a *api.Packet) { a.Exts = make([]api.Ext, 2); a.Exts[0].Op, a.Exts[1].Op = 1, 2 }, api.ErrExt},
		// A sample that may not be: a delay below 0, or too much of anything.
		{func(a *api.Packet) { a.Rec-- }, api.ErrArg}, {func(a *api.Packet) { a.Xmt++ }, api.ErrArg}, {func(a *api.Packet) { a.Rec, a.Xmt = asked+1<<60+1, asked+1<<60+1 }, api.ErrArg}, {func(a *api.Packet) { a.Rec, a.Xmt = asked-1<<60-1, asked-1<<60-1 }, api.ErrArg}, {func(a *api.Packet) { a.Xmt -= 1<<60 + 1 }, api.ErrArg}, {func(a *api.Packet) { a.Rec += 1 << 63 }, api.ErrArg},
		{func(a *api.Packet) { a.Exts = []api.Ext{{Op: 9}}; a.Rec-- }, api.ErrExt},
	} {
		t.Log(i)
		p.wantRefused(t, p.timeAnswer(t, request, c.change), c.want)
	}
	// Behind 2^60 units, or as long ahead of when it was begun, no sample may be.
	for _, age := range []int64{1<<60 + 1, -1<<60 - 1, -1 << 63} {
		now := begin + uint64(age)
		answer := p.timeAnswer(t, request, func(a *api.Packet) { a.Rec, a.Xmt = now, now-min(now-asked, 1<<58) })
		wantRefused(t, p.client, addr(0), answer, now, nil, api.ErrArg)
	}
	if got := p.client.Peers()[0]; got.Samples != 0 || !got.Waits {
		t.Errorf("Peers = %+v", got)
	}
	if heard := p.hear(t, p.reply(t, request)); heard.What != host.Told {
		t.Errorf("%+v", heard)
	}
}
