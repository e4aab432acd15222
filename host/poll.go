package host

import (
	"clepsydra/api"
	"clepsydra/stamp"
)

// requestPoll is the Poll of all requests.
const requestPoll = 6

// Poll asks a server.
func (h *Host) Poll(server uint32, now uint64, draws []byte) ([]byte, api.Errno) {
	if h.unmade() {
		return nil, api.ErrNil
	}
	a := h.peer(server)
	switch {
	case a == nil:
		return nil, api.ErrPeer
	case !a.mayAsk(now):
		return nil, api.ErrOld
	case len(draws) < drawsFor(a.nextOp()):
		return nil, api.ErrDraws
	}
	a.request = request{op: a.nextOp(), xmt: now, key: wordOf(draws)}
	if a.op == api.OpIff {
		copy(a.question[:], draws[wordBytes:])
	}
	a.asked, a.Waits = true, true
	p := api.Packet{Version: version, Mode: api.ModeClient, Poll: requestPoll, Xmt: now, Exts: h.fieldsFor(a)}
	return sealed(p, h.own.Addr, server, a.key, a.seal()), api.OK
}

// drawsFor is how many bytes are drawn for a request.
func drawsFor(op int) int {
	if op == api.OpIff {
		return wordBytes + questionBytes
	}
	return wordBytes
}

// fieldsFor are the fields of an association's request: one, or none.
func (h *Host) fieldsFor(a *association) []api.Ext {
	x := api.Ext{Op: a.op, TS: stamp.Sec(a.xmt)}
	switch a.op {
	case api.OpAssoc:
		x.Value = []byte(h.own.Name)
	case api.OpCert:
		x.Value = []byte(a.Want)
	case api.OpIff:
		x.Value = a.question[:]
	case api.OpCookie:
		x.Value = textOf(h.own.Key)
	case opTime:
		if !h.own.Bound {
			return nil
		}
		x.Op, x.Value = api.OpBound, faceOf(textOf(h.own.Key))
	}
	return []api.Ext{x}
}
