package host_test

import (
	"bytes"
	"crypto/sha256"
	"math/big"
	"reflect"
	"slices"
	"strings"
	"testing"

	"clepsydra/api"
	"clepsydra/der"
	"clepsydra/host"
	"clepsydra/keys"
	"clepsydra/nat"
	"clepsydra/pkey"
	"clepsydra/values"
)

// P17.3: Receive of what is no request and no answer; P17.4: answering.

// asking is a request whose head has something everywhere, with some fields.
func asking(x ...api.Ext) api.Packet {
	return api.Packet{
		Leap: 3, Version: 4, Mode: api.ModeClient, Stratum: 16, Poll: 17, Prec: -128, Delay: 1 << 31, Disp: 5, RefID: 7,
		Ref: 1<<64 - 1, Org: 1 << 50, Rec: 3, Xmt: 0xfedcba9876543210, Exts: x,
	}
}

// answering is the answer to such a request, with some fields.
func answering(stratum int, now uint64, x ...api.Ext) api.Packet {
	return api.Packet{Version: 4, Mode: api.ModeServer, Stratum: stratum, Org: 0xfedcba9876543210, Rec: now, Xmt: now, Exts: x}
}

// field is a field of a request.
func field(op int, value []byte) api.Ext {
	return api.Ext{Op: op, Assoc: 65535, TS: 99, FS: 98, Value: value, Sig: []byte("any")}
}

const (
	asker = uint32(0xf1f2f3f4)
	keyID = uint32(0x8badf00d)
)

// wantAnswer fails, if a request that is sealed by a cookie is not answered by just this packet, sealed by another one.
func wantAnswer(t *testing.T, c host.Config, p api.Packet, cookie uint32, draws []byte, want api.Packet, by uint32) {
	t.Helper()
	wantAnswered(t, c, sealed(t, p, asker, c.Addr, keyID, cookie), draws, sealed(t, want, c.Addr, asker, keyID, by))
}

// wantAnswered fails, if some bytes are not answered by just these others, or if they change anything.
func wantAnswered(t *testing.T, c host.Config, b, draws, want []byte) {
	t.Helper()
	h := made(t, c)
	before := stateOf(h)
	for range 2 {
		heard, e := h.Receive(asker, b, begin, draws)
		if e != api.OK || heard.What != host.Answered || heard.Sample != (api.Sample{}) {
			t.Fatalf("Receive(%+v) = %+v, %v", read(t, b), heard, e)
		}
		if !bytes.Equal(heard.Out, want) {
			t.Fatalf("the answer to %+v is\n%+v, not\n%+v", read(t, b), read(t, heard.Out), read(t, want))
		}
	}
	wantSame(t, h, before)
}

func TestReceivedNoPacket(t *testing.T) {
	h := plain(t, false).client
	right := written(t, asking())
	for _, c := range []struct {
		b    []byte
		want api.Errno
	}{
		{nil, api.ErrShort}, {right[:47], api.ErrShort}, {make([]byte, 8193), api.ErrLong}, {make([]byte, 48), api.ErrHead}, {append(slices.Clone(right), 1), api.ErrMac}, {append(slices.Clone(right), make([]byte, 21)...), api.ErrExt}, {append(slices.Clone(right), make([]byte, 24)...), api.ErrExt},
	} {
		wantRefused(t, h, addr(0), c.b, begin, nil, c.want)
	}
	for mode := 1; mode <= 5; mode++ {
		p := asking()
		p.Mode = mode
		want := api.ErrArg
		switch mode {
		case api.ModeClient:
			want = api.ErrMac
		case api.ModeServer:
			want = api.ErrOld
		}
		wantRefused(t, h, addr(0), written(t, p), begin, drawn(1, 64), want)
		if want == api.ErrArg {
			wantRefused(t, h, addr(0), sealed(t, p, addr(0), addr(1), 5, 0), begin, drawn(1, 64), want)
			p.Exts = []api.Ext{field(1, nil), field(2, nil)}
			wantRefused(t, h, addr(0), written(t, p), begin, drawn(1, 64), want)
		}
	}
}

func TestRequestsRefused(t *testing.T) {
	resp, bad := field(api.OpAssoc, nil), field(api.OpAssoc, nil)
	resp.Resp, bad.Bad = true, true
	boundResp := field(api.OpBound, nil)
	boundResp.Resp = true
	for _, bound := range []bool{false, true} {
		c := config(0, bound)
		h := made(t, c)
		seal := func(p api.Packet, cookie uint32) []byte { return sealed(t, p, asker, c.Addr, keyID, cookie) }
		nak := func(x ...api.Ext) []byte {
			p := asking(x...)
			p.Mac = api.Mac{Has: true, Key: keyID}
			return written(t, p)
		}
		spoilt := seal(asking(field(api.OpAssoc, nil)), 0)
		spoilt[len(spoilt)-1] ^= 1
		for _, x := range []struct {
			b     []byte
			draws int
			want  api.Errno
		}{
			// No Mac, or one without a Sum.
			{written(t, asking()), 64, api.ErrMac}, {written(t, asking(field(api.OpAssoc, nil))), 64, api.ErrMac}, {nak(), 64, api.ErrMac}, {nak(field(api.OpBound, nil)), 64, api.ErrMac}, {nak(field(api.OpCert, nil)), 64, api.ErrMac}, {written(t, asking(resp, bad)), 64, api.ErrMac},
			// Fields that may not be, whatever seals them.
			{seal(asking(resp), 0), 64, api.ErrExt}, {seal(asking(bad), 0), 64, api.ErrExt}, {seal(asking(boundResp), 0), 64, api.ErrExt}, {seal(asking(boundResp), 7), 64, api.ErrExt}, {seal(asking(field(1, nil), field(1, nil)), 0), 64, api.ErrExt}, {seal(asking(field(8, nil), field(8, nil)), 0), 64, api.ErrExt}, {seal(asking(resp), 1), 64, api.ErrExt}, {seal(asking(slices.Repeat([]api.Ext{field(5, nil)}, 8)...), 0), 64, api.ErrExt},
			// Sealed by another cookie, for another host, by somebody else, or with another sum.
			{seal(asking(field(api.OpAssoc, nil)), 1), 64, api.ErrMac}, {seal(asking(field(api.OpCert, []byte("h0"))), 1<<31), 64, api.ErrMac}, {seal(asking(field(api.OpIff, nil)), keys.Cookie(asker, c.Addr, c.Seed)), 0, api.ErrMac}, {seal(asking(field(api.OpCookie, nil)), 1), 0, api.ErrMac}, {seal(asking(field(63, nil)), 1), 64, api.ErrMac}, {spoilt, 64, api.ErrMac},
			{sealed(t, asking(field(api.OpAssoc, nil)), asker, c.Addr+1, keyID, 0), 64, api.ErrMac}, {sealed(t, asking(field(api.OpAssoc, nil)), asker+1, c.Addr, keyID, 0), 64, api.ErrMac}, {sealed(t, asking(field(api.OpAssoc, nil)), c.Addr, asker, keyID, 0), 64, api.ErrMac},
			// A proof takes draws, also where there is none.
			{seal(asking(field(api.OpIff, nil)), 0), 15, api.ErrDraws}, {seal(asking(field(api.OpIff, drawn(1, 16))), 0), 0, api.ErrDraws}, {seal(asking(field(api.OpIff, drawn(1, 33))), 0), 15, api.ErrDraws},
		} {
			wantRefused(t, h, asker, x.b, begin, drawn(1, x.draws), x.want)
		}
		c.P, c.Secret = api.Params{}, nil
		wantRefused(t, made(t, c), asker, seal(asking(field(api.OpIff, nil)), 0), begin, drawn(1, 15), api.ErrDraws)
	}
}

// The time, and a no.
func TestTimeAnswered(t *testing.T) {
	for _, bound := range []bool{false, true} {
		c := config(0, bound)
		c.Stratum = 13
		for _, value := range [][]byte{nil, drawn(2, 16), drawn(2, 5), drawn(2, 2048)} {
			cookie := map[bool]uint32{false: keys.Cookie(asker, c.Addr, c.Seed), true: keys.Bound(asker, c.Addr, c.Seed, value)}
			no := answering(13, begin)
			no.Mac = api.Mac{Has: true}
			for _, asksBound := range []bool{false, true} {
				p := asking()
				if asksBound {
					p = asking(field(api.OpBound, value))
				}
				if asksBound == bound {
					wantAnswer(t, c, p, cookie[bound], nil, answering(13, begin), cookie[bound])
				} else {
					wantAnswered(t, c, sealed(t, p, asker, c.Addr, keyID, cookie[bound]), nil, written(t, no))
				}
				// Whatever else seals it, a no.
				right := sealed(t, p, asker, c.Addr, keyID, cookie[asksBound])
				spoilt, otherKey := slices.Clone(right), slices.Clone(right)
				spoilt[len(spoilt)-1] ^= 128
				otherKey[len(otherKey)-17] ^= 1
				for _, b := range [][]byte{
					spoilt, otherKey, sealed(t, p, asker, c.Addr, keyID, 0), sealed(t, p, asker, c.Addr, keyID, cookie[asksBound]^1), sealed(t, p, asker, c.Addr, keyID, cookie[!asksBound]),
					sealed(t, p, asker+1, c.Addr, keyID, cookie[asksBound]), sealed(t, p, c.Addr, asker, keyID, cookie[asksBound]),
				} {
					wantAnswered(t, c, b, drawn(1, 64), written(t, no))
				}
				otherSeed := c
				otherSeed.Seed++
				wantAnswered(t, otherSeed, right, nil, written(t, no))
			}
		}
	}
}

func TestAssocAnswered(t *testing.T) {
	for _, bound := range []bool{false, true} {
		c := config(3, bound)
		for _, value := range [][]byte{nil, []byte("h1"), []byte("h3"), drawn(1, 2048)} {
			want := api.Ext{Op: api.OpAssoc, Resp: true, TS: 1500, Value: []byte("h3")}
			wantAnswer(t, c, asking(field(api.OpAssoc, value)), 0, nil, answering(4, begin, want), 0)
		}
	}
}

func TestCertAnswered(t *testing.T) {
	c := config(3, false)
	second := certBy(1, 3, 0)
	c.Certs = append(c.Certs, second)
	all := certs(3)
	for _, x := range []struct {
		value string
		want  []byte
	}{
		{"h0", certBytes(all[0])}, {"h1", certBytes(all[1])}, {"h2", certBytes(all[2])}, {"h3", certBytes(all[3])}, {"h4", nil}, {"", nil}, {"h", nil}, {"H1", nil}, {"h1\x00", nil}, {"h11", nil}, {strings.Repeat("h", 2048), nil},
	} {
		want := api.Ext{Op: api.OpCert, Resp: true, Bad: len(x.want) == 0, TS: 1500, Value: x.want}
		wantAnswer(t, c, asking(field(api.OpCert, []byte(x.value))), 0, nil, answering(4, begin, want), 0)
	}
	// The first one of the store, not of the chain.
	c.Certs = append([]api.Cert{second}, c.Certs[:4]...)
	want := api.Ext{Op: api.OpCert, Resp: true, TS: 1500, Value: certBytes(second)}
	wantAnswer(t, c, asking(field(api.OpCert, []byte("h1"))), 0, nil, answering(4, begin, want), 0)
	c.Certs = nil
	want = api.Ext{Op: api.OpCert, Resp: true, Bad: true, TS: 1500}
	wantAnswer(t, c, asking(field(api.OpCert, []byte("h3"))), 0, nil, answering(4, begin, want), 0)
}

// What a host has learnt it tells, too.
func TestLearntCertAnswered(t *testing.T) {
	p := begun(t, config(0, false), config(1, false)).upTo(t, 3)
	want := api.Ext{Op: api.OpCert, Resp: true, TS: 1500, Value: certBytes(certBy(1, 0, 0))}
	heard := received(t, p.client, asker, sealed(t, asking(field(api.OpCert, []byte("h1"))), asker, addr(0), keyID, 0), begin, nil)
	if !bytes.Equal(heard.Out, sealed(t, answering(1, begin, want), addr(0), asker, keyID, 0)) {
		t.Errorf("the answer is %+v", read(t, heard.Out))
	}
}

// proofOf is the answer and the mark of a proof, by the library's numbers.
func proofOf(p api.Params, b, k, r *big.Int) []byte {
	of := func(n api.Nat) *big.Int { return new(big.Int).SetUint64(n[0]) }
	q := of(p.Q)
	y := new(big.Int).Mul(b, r)
	y.Add(y, k).Mod(y, q)
	sum := sha256.Sum256(new(big.Int).Exp(of(p.G), k, of(p.P)).Bytes())
	return append(y.FillBytes(make([]byte, (q.BitLen()+7)/8)), sum[:16]...)
}

func TestProofAnswered(t *testing.T) {
	for _, group := range []api.Params{params(), {P: nat.Of(23), Q: nat.Of(11), G: nat.Of(2)}, {P: api.Nat{2039, 0}, Q: api.Nat{1019, 0, 0, 0}, G: api.Nat{4, 0}}} {
		for i := range 40 {
			c := config(2, i%2 == 0)
			c.P, c.Secret = group, nat.Of(uint64(1+i*i))
			question := drawn(int64(i), i%33)
			if i == 5 {
				question = make([]byte, 32)
			}
			draws := append(drawn(int64(100+i), 16), drawn(int64(i), i)...)
			draws[i%16] = 0
			value := proofOf(group, big.NewInt(int64(1+i*i)), new(big.Int).SetBytes(draws[:16]), new(big.Int).SetBytes(question))
			want := signedField(t, c.Key, api.OpIff, 1500, value)
			wantAnswer(t, c, asking(field(api.OpIff, question)), 0, draws, answering(3, begin, want), 0)
		}
	}
}

func TestNoProof(t *testing.T) {
	bad := api.Ext{Op: api.OpIff, Resp: true, Bad: true, TS: 1500}
	for what, change := range map[string]func(c *host.Config, x *api.Ext){
		"no parameters":       func(c *host.Config, x *api.Ext) { c.P = api.Params{} },
		"a P that is none":    func(c *host.Config, x *api.Ext) { c.P.P = nat.Of(2038) },
		"a G that is none":    func(c *host.Config, x *api.Ext) { c.P.G = nat.Of(1) },
		"a Q that is none":    func(c *host.Config, x *api.Ext) { c.P.Q = nat.Of(1009) },
		"no secret":           func(c *host.Config, x *api.Ext) { c.Secret = nil },
		"a secret of noughts": func(c *host.Config, x *api.Ext) { c.Secret = api.Nat{0, 0} },
		"a long question":     func(c *host.Config, x *api.Ext) { x.Value = drawn(1, 33) },
		"a question of 0":     func(c *host.Config, x *api.Ext) { x.Value = make([]byte, 33) },
		"the longest one":     func(c *host.Config, x *api.Ext) { x.Value = drawn(1, 2048) },
	} {
		c, x := config(2, false), field(api.OpIff, drawn(1, 16))
		change(&c, &x)
		t.Log(what)
		wantAnswer(t, c, asking(x), 0, drawn(1, 16), answering(3, begin, bad), 0)
	}
	// A secret that is a multiple of Q is not 0.
	c, question, draws := config(2, false), drawn(1, 16), drawn(2, 16)
	c.Secret = nat.Of(1019)
	value := proofOf(c.P, big.NewInt(1019), new(big.Int).SetBytes(draws), new(big.Int).SetBytes(question))
	wantAnswer(t, c, asking(field(api.OpIff, question)), 0, draws, answering(3, begin, signedField(t, c.Key, api.OpIff, 1500, value)), 0)
}

func TestCookieAnswered(t *testing.T) {
	for _, bound := range []bool{false, true} {
		c := config(2, bound)
		// The least key has room for a cookie just so; a great one takes more draws.
		for _, k := range []api.Key{key(114, 3), key(120, 3), keyAt(0), keyAt(2), key(512, 9), key(1024, 1)} {
			text := textOf(k)
			cookie := keys.Cookie(asker, c.Addr, c.Seed)
			if bound {
				cookie = keys.Bound(asker, c.Addr, c.Seed, faceOf(text))
			}
			// Noughts among the draws count for nothing.
			draws := slices.Insert(drawn(4, pkey.Size(k)-7), 3, 0, 0)
			hidden, e := pkey.Encrypt(pkey.Public(k), four(cookie), draws)
			if e != api.OK {
				t.Fatalf("Encrypt: %v", e)
			}
			want := signedField(t, c.Key, api.OpCookie, 1500, hidden)
			wantAnswer(t, c, asking(field(api.OpCookie, text)), 0, draws, answering(3, begin, want), 0)
			if shown, e := pkey.Decrypt(k, hidden); e != api.OK || !bytes.Equal(shown, four(cookie)) {
				t.Errorf("the cookie is %x, %v", shown, e)
			}
			bad := api.Ext{Op: api.OpCookie, Resp: true, Bad: true, TS: 1500}
			wantAnswer(t, c, asking(field(api.OpCookie, text)), 0, draws[:len(draws)-1], answering(3, begin, bad), 0)
			wantAnswer(t, c, asking(field(api.OpCookie, text)), 0, nil, answering(3, begin, bad), 0)
		}
	}
}

// What is no key's text, and a key that can't be used.
func TestNoCookie(t *testing.T) {
	k := keyAt(0)
	n, e := der.Nat(k.N), der.Nat(k.E)
	seq := func(kids ...api.Node) []byte { return seqOf(api.TagSeq, kids...) }
	negative := der.Nat(k.N)
	negative.Bytes[0] = 255
	negative.Bytes[1] &= 127
	whole := textOf(k)
	for i, text := range [][]byte{
		nil, {0}, []byte("h0"), whole[:len(whole)-1], append(slices.Clone(whole), 0), drawn(1, 2048), seq(), seq(n), seq(n, e, e), seq(n, e, api.Node{Tag: api.TagNull}), seqOf(api.TagSet, e, n), seq(api.Node{Tag: api.TagSeq, Kids: []api.Node{n, e}}),
		seq(api.Node{Tag: api.TagOctets, Bytes: n.Bytes}, e), seq(n, api.Node{Tag: api.TagOctets, Bytes: e.Bytes}), seq(negative, e), seq(n, der.Int(-3)),
		// Two numbers that are no right key.
		seq(e, n), seq(der.Nat(nat.Add(k.N, nat.Of(1))), e), seq(n, der.Int(1)), seq(n, der.Int(65536)), seq(n, n), seq(der.Int(64507), der.Int(64507)), seq(der.Int(21), der.Int(3)), seq(der.Nat(nat.Add(nat.Shift(nat.Of(1), 1024), nat.Of(1))), e), seq(n, der.Int(0)), seq(der.Int(0), e),
		// A right one that has no room for a cookie.
		textOf(key(112, 3)), textOf(api.Key{N: nat.Of(64507), E: nat.Of(17)}),
	} {
		for _, bound := range []bool{false, true} {
			t.Log(i, bound)
			bad := api.Ext{Op: api.OpCookie, Resp: true, Bad: true, TS: 1500}
			wantAnswer(t, config(2, bound), asking(field(api.OpCookie, text)), 0, drawn(1, 200), answering(3, begin, bad), 0)
		}
	}
}

func TestOtherOpsAnswered(t *testing.T) {
	for op := 1; op <= 63; op++ {
		if op <= api.OpCookie || op == api.OpBound {
			continue
		}
		for _, value := range [][]byte{nil, []byte("h0"), drawn(1, 2048)} {
			bad := api.Ext{Op: op, Resp: true, Bad: true, TS: 1500}
			wantAnswer(t, config(2, op%2 == 0), asking(field(op, value)), 0, drawn(1, 64), answering(3, begin, bad), 0)
		}
	}
}

// An answer is signed at its second, and by its own key.
func TestSignedAtNow(t *testing.T) {
	c := config(2, false)
	h := made(t, c)
	for _, now := range []uint64{0, 1<<32 - 1, 1 << 32, begin, 1<<64 - 1} {
		for _, x := range []api.Ext{field(api.OpIff, drawn(1, 16)), field(api.OpCookie, textOf(keyAt(1)))} {
			p := read(t, received(t, h, asker, sealed(t, asking(x), asker, c.Addr, keyID, 0), now, drawn(2, 64)).Out)
			if p.Rec != now || p.Xmt != now || len(p.Exts) != 1 || p.Exts[0].TS != uint32(now>>32) || p.Exts[0].FS != 0 {
				t.Fatalf("at %x: %+v", now, p)
			}
			got := p.Exts[0]
			if e := values.Check(pkey.Public(c.Key), api.Value{TS: got.TS, Data: got.Value, Sig: got.Sig}); e != api.OK {
				t.Errorf("Check: %v", e)
			}
		}
	}
}

// Whoever asks for what he did before is answered as before, and a host answers its own address as any.
func TestAnswersHangOnRequestsAlone(t *testing.T) {
	c := config(2, false)
	h := made(t, c)
	for _, from := range []uint32{asker, c.Addr, 0} {
		b := sealed(t, asking(field(api.OpCookie, textOf(keyAt(1)))), from, c.Addr, keyID, 0)
		first := received(t, h, from, b, begin, drawn(2, 64))
		for op := 1; op <= 8; op++ {
			h.Receive(asker, sealed(t, asking(field(op, drawn(3, 16))), asker, c.Addr, keyID, 0), begin+second, drawn(5, 64))
		}
		if again := received(t, h, from, b, begin, drawn(2, 64)); !reflect.DeepEqual(again, first) {
			t.Errorf("%+v behind %+v", again, first)
		}
	}
}
