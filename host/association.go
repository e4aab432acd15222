package host

import (
	"clepsydra/api"
	"clepsydra/filter"
	"clepsydra/stamp"
)

// opTime is what is asked for by a request of the time, whatever field that has.
const opTime = 0

// questionBytes is how many drawn bytes a proof's question has, and the number that hides the secret in the answer.
const questionBytes = 16

// association is a server that a host asks: what is told of it, and the last request.
type association struct {
	Peer
	request
	asked   bool   // whether there was a request
	cookie  uint32 // by which the server seals its time
	signed  uint32 // the last signed TS
	begun   uint64
	samples filter.Filter
}

// request is what was asked, when, and by which key number.
type request struct {
	op       int
	xmt      uint64
	key      uint32
	question [questionBytes]byte
}

// unknown is a server of which nothing is known.
func unknown(addr uint32, name string) Peer { return Peer{Addr: addr, Name: name, Want: name} }

// forget forgets what was learnt. When it asked last is kept: no two requests may have one time.
func (a *association) forget() {
	*a = association{Peer: unknown(a.Addr, a.Name), request: request{xmt: a.xmt}, asked: a.asked, begun: a.begun}
}

// mayAsk tells whether a time is later than that of the last request.
func (a *association) mayAsk(now uint64) bool { return !a.asked || stamp.Before(a.xmt, now) }

// nextOp is what is to be asked for: what the first bit stands for that is not set.
func (a *association) nextOp() int {
	switch {
	case a.Bits&BitAssoc == 0:
		return api.OpAssoc
	case a.Bits&BitCert == 0:
		return api.OpCert
	case a.Bits&BitIff == 0:
		return api.OpIff
	case a.Bits&BitCookie == 0:
		return api.OpCookie
	}
	return opTime
}

// seal is the cookie by which the last request is sealed, and its answer.
func (a *association) seal() uint32 {
	if a.op == opTime {
		return a.cookie
	}
	return openSeal
}

// age is how long ago an association was begun.
func (a *association) age(now uint64) int64 { return stamp.Diff(now, a.begun) }
