package host

import (
	"clepsydra/api"
	"clepsydra/cert"
	"clepsydra/iff"
	"clepsydra/nat"
	"clepsydra/pkey"
	"clepsydra/stamp"
	"clepsydra/values"
	"clepsydra/wire"
)

// markBytes is how many bytes a proof's mark has.
const markBytes = 16

// Receive takes a packet in.
func (h *Host) Receive(from uint32, b []byte, now uint64, draws []byte) (Heard, api.Errno) {
	if h.unmade() {
		return Heard{}, api.ErrNil
	}
	p, fault := wire.Read(b)
	if fault.Code != api.OK {
		return Heard{}, fault.Code
	}
	front, _ := wire.Front(b)
	l := letter{Packet: p, front: front, from: from, now: now, draws: draws}
	switch p.Mode {
	case api.ModeClient:
		return h.answer(l)
	case api.ModeServer:
		return h.hear(l)
	}
	return Heard{}, api.ErrArg
}

// hear takes a server's answer in. One that is refused changes nothing: the right one may come yet.
func (h *Host) hear(l letter) (Heard, api.Errno) {
	a := h.peer(l.from)
	if a == nil {
		return Heard{}, api.ErrPeer
	}
	if !a.Waits || l.Org != a.xmt {
		return Heard{}, api.ErrOld
	}
	heard, e := h.heard(a, l)
	if e != api.OK {
		return Heard{}, e
	}
	a.Waits = false
	return heard, api.OK
}

// heard is what the answer comes to that an association waits for.
func (h *Host) heard(a *association, l letter) (Heard, api.Errno) {
	isTime := a.op == opTime
	if wire.Nak(l.Packet) {
		if !isTime {
			return Heard{}, api.ErrMac
		}
		a.Bits &^= BitCookie
		return Heard{What: Rejected}, api.OK
	}
	if l.Mac.Key != a.key || !l.sealedFor(h.own.Addr, a.seal()) {
		return Heard{}, api.ErrMac
	}
	if isTime {
		s, e := a.take(l)
		return Heard{What: Told, Sample: s}, e
	}
	if len(l.Exts) != 1 || l.Exts[0].Op != a.op || !l.Exts[0].Resp {
		return Heard{}, api.ErrExt
	}
	return Heard{What: Advanced}, h.learn(a, l.Exts[0], l.now)
}

// take takes the time in.
func (a *association) take(l letter) (api.Sample, api.Errno) {
	if len(l.Exts) > 0 {
		return api.Sample{}, api.ErrExt
	}
	s := api.Sample{
		Offset: stamp.Offset(a.xmt, l.Rec, l.Xmt, l.now),
		Delay:  stamp.Delay(a.xmt, l.Rec, l.Xmt, l.now),
		Disp:   stamp.Long(l.Disp),
		At:     a.age(l.now),
	}
	return s, a.samples.Add(s)
}

// learn takes in what a field tells of a server; a field that is wrong leaves ahead of what it would change.
func (h *Host) learn(a *association, x api.Ext, now uint64) api.Errno {
	if x.Bad {
		return api.ErrNone
	}
	var e api.Errno
field:
	switch x.Op {
	case api.OpAssoc:
		if string(x.Value) != a.Name {
			e = api.ErrCert
			break field
		}
		a.Bits |= BitAssoc
	case api.OpCert:
		e = h.learnCert(a, x.Value, now)
	case api.OpIff, api.OpCookie:
		if e = h.checkSigned(a, x, now); e != api.OK {
			break field
		}
		switch x.Op {
		case api.OpIff:
			if e = h.checkProof(a, x.Value); e != api.OK {
				break field
			}
			a.Bits |= BitIff
		case api.OpCookie:
			cookie, errno := h.shownCookie(x.Value)
			if e = errno; e != api.OK {
				break field
			}
			a.cookie = cookie
			a.Bits |= BitCookie
		}
		a.signed = x.TS
	}
	return e
}

// learnCert takes a certificate in, and looks for a trail, or for what lacks of it.
func (h *Host) learnCert(a *association, b []byte, now uint64) api.Errno {
	c, e := cert.Read(b)
	if e != api.OK {
		return e
	}
	if c.Subject != a.Want {
		return api.ErrCert
	}
	if e := h.store.Put(c); e != api.OK {
		return e
	}
	_, e = h.trail(a, now)
	switch {
	case e == api.OK:
		a.Bits |= BitCert
	case cert.Self(c):
		a.Want = a.Name
	default:
		a.Want = c.Issuer
	}
	return api.OK
}

// trail is the trail of an association's server.
func (h *Host) trail(a *association, now uint64) ([]api.Cert, api.Errno) {
	return h.store.Find(a.Name, stamp.Sec(now), h.own.Trusted)
}

// checkSigned tells whether a field is signed by the server, and not before the last one that was.
func (h *Host) checkSigned(a *association, x api.Ext, now uint64) api.Errno {
	l, e := h.trail(a, now)
	if e != api.OK {
		return e
	}
	v := api.Value{TS: x.TS, FS: x.FS, Data: x.Value, Sig: x.Sig}
	if e := values.Check(cert.Key(l[0]), v); e != api.OK {
		return e
	}
	if x.TS < a.signed {
		return api.ErrOld
	}
	return api.OK
}

// checkProof tells whether an answer and a mark prove that the server knows the secret.
func (h *Host) checkProof(a *association, b []byte) api.Errno {
	size := sizeOf(h.own.P.Q)
	if len(b) != size+markBytes {
		return api.ErrForm
	}
	if !iff.Holds(h.own.P, h.own.Face, nat.Read(a.question[:]), nat.Read(b[:size]), b[size:]) {
		return api.ErrParams
	}
	return api.OK
}

// shownCookie is the cookie that was encrypted for the host.
func (h *Host) shownCookie(b []byte) (uint32, api.Errno) {
	text, e := pkey.Decrypt(h.own.Key, b)
	if e != api.OK {
		return 0, e
	}
	if len(text) != wordBytes {
		return 0, api.ErrForm
	}
	return wordOf(text), api.OK
}
