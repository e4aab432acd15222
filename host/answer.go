package host

import (
	"clepsydra/api"
	"clepsydra/cert"
	"clepsydra/iff"
	"clepsydra/keys"
	"clepsydra/nat"
	"clepsydra/pkey"
	"clepsydra/stamp"
	"clepsydra/values"
)

// mostQuestion is how many bytes the question of a proof may have.
const mostQuestion = 32

// answer is what a host answers to a request.
func (h *Host) answer(l letter) (Heard, api.Errno) {
	if len(l.Mac.Sum) == 0 {
		return Heard{}, api.ErrMac
	}
	x, e := asked(l.Exts)
	if e != api.OK {
		return Heard{}, e
	}
	if x.Op == opTime || x.Op == api.OpBound {
		return Heard{What: Answered, Out: h.timeFor(l, x)}, api.OK
	}
	out, e := h.fieldFor(l, x)
	if e != api.OK {
		return Heard{}, e
	}
	return Heard{What: Answered, Out: out}, api.OK
}

// asked is the one field of a request; the zero one, whose op is that of the time, if it has none.
func asked(fields []api.Ext) (api.Ext, api.Errno) {
	if len(fields) == 0 {
		return api.Ext{}, api.OK
	}
	if x := fields[0]; len(fields) == 1 && !x.Resp && !x.Bad {
		return x, api.OK
	}
	return api.Ext{}, api.ErrExt
}

// timeFor is the bytes of the answer to a request of the time: a no, where that is not sealed by the cookie of who asks.
func (h *Host) timeFor(l letter, x api.Ext) []byte {
	p := h.head(l)
	cookie := h.cookie(l.from, x.Value)
	if (x.Op == api.OpBound) != h.own.Bound || !l.sealedFor(h.own.Addr, cookie) {
		p.Mac = api.Mac{Has: true}
		return written(p)
	}
	return sealed(p, h.own.Addr, l.from, l.Mac.Key, cookie)
}

// fieldFor is the bytes of the answer to any other request.
func (h *Host) fieldFor(l letter, x api.Ext) ([]byte, api.Errno) {
	if !l.sealedFor(h.own.Addr, openSeal) {
		return nil, api.ErrMac
	}
	if x.Op == api.OpIff && len(l.draws) < questionBytes {
		return nil, api.ErrDraws
	}
	out := api.Ext{Op: x.Op, Resp: true, TS: stamp.Sec(l.now), Value: h.valueFor(l, x)}
	out.Bad = len(out.Value) == 0
	if !out.Bad && (x.Op == api.OpIff || x.Op == api.OpCookie) {
		v, _ := values.Sign(h.own.Key, api.Value{TS: out.TS, Data: out.Value})
		out.Sig = v.Sig
	}
	p := h.head(l)
	p.Exts = []api.Ext{out}
	return sealed(p, h.own.Addr, l.from, l.Mac.Key, openSeal), api.OK
}

// head is what all answers have.
func (h *Host) head(l letter) api.Packet {
	return api.Packet{Version: version, Mode: api.ModeServer, Stratum: h.own.Stratum, Org: l.Xmt, Rec: l.now, Xmt: l.now}
}

// cookie is that of a client, bound to the face of its key, if the host is Bound.
func (h *Host) cookie(client uint32, face []byte) uint32 {
	if h.own.Bound {
		return keys.Bound(client, h.own.Addr, h.own.Seed, face)
	}
	return keys.Cookie(client, h.own.Addr, h.own.Seed)
}

// valueFor is what a field asks for; none, if there is none of it.
func (h *Host) valueFor(l letter, x api.Ext) []byte {
	switch x.Op {
	case api.OpAssoc:
		return []byte(h.own.Name)
	case api.OpCert:
		return h.certOf(string(x.Value))
	case api.OpIff:
		return h.proof(x.Value, l.draws[:questionBytes])
	case api.OpCookie:
		return h.hiddenCookie(l.from, x.Value, l.draws)
	}
	return nil
}

// certOf is the bytes of a subject's first certificate.
func (h *Host) certOf(subject string) []byte {
	for _, c := range h.store.All() {
		if c.Subject == subject {
			b, _ := cert.Write(c)
			return b
		}
	}
	return nil
}

// proof is the answer to a question, and the mark of what is drawn for it.
func (h *Host) proof(question, drawn []byte) []byte {
	if len(question) > mostQuestion || nat.Bits(h.own.Secret) == 0 {
		return nil
	}
	k := nat.Read(drawn)
	y, e := iff.Answer(h.own.P, h.own.Secret, k, nat.Read(question))
	if e != api.OK {
		return nil
	}
	mark, _ := iff.Mark(h.own.P, k)
	b, _ := nat.Write(y, sizeOf(h.own.P.Q))
	return append(b, mark...)
}

// hiddenCookie is a client's cookie, encrypted for the key that has a text; none, if it can't be.
func (h *Host) hiddenCookie(client uint32, text, draws []byte) []byte {
	b, _ := pkey.Encrypt(keyOf(text), bytesOf(h.cookie(client, faceOf(text))), draws)
	return b
}
