package net

import (
	"bytes"
	"slices"

	"clepsydra/api"
	"clepsydra/host"
)

// Do does a step.
func (w *World) Do(s Step) (host.Heard, api.Errno) {
	if w.unmade() {
		return host.Heard{}, api.ErrNil
	}
	switch s.Kind {
	case Tick:
		return host.Heard{}, w.tick(s.N)
	case Call:
		return host.Heard{}, w.call(s)
	case Poll:
		return host.Heard{}, w.poll(s)
	case Restart:
		return host.Heard{}, w.restart(s)
	}
	return w.handle(s)
}

// handle does a step with a packet on its way.
func (w *World) handle(s Step) (host.Heard, api.Errno) {
	switch s.Kind {
	case Deliver:
		m, e := w.take(s.A)
		if e != api.OK {
			return host.Heard{}, e
		}
		return w.deliver(m, s.Draws)
	case Drop:
		_, e := w.take(s.A)
		return host.Heard{}, e
	case Dup:
		m, e := w.onWay(s.A)
		if e != api.OK {
			return host.Heard{}, e
		}
		s.From, s.To, s.Bytes = m.From, m.To, m.Bytes
		fallthrough
	case Inject:
		if len(s.Bytes) > api.MaxPacket {
			return host.Heard{}, api.ErrLong
		}
		return host.Heard{}, w.put(s.From, s.To, s.Bytes)
	}
	return host.Heard{}, api.ErrArg
}

// tick lets time go on.
func (w *World) tick(n int64) api.Errno {
	if n < 0 || n > mostTick || w.now > mostTime-n {
		return api.ErrArg
	}
	w.now += n
	return api.OK
}

// call begins an association of a host with another one.
func (w *World) call(s Step) api.Errno {
	a, b := w.member(s.A), w.member(s.B)
	if a == nil || b == nil {
		return api.ErrStep
	}
	return a.host.Call(b.addr, b.name, w.shownBy(a))
}

// poll lets a host ask another one. Whether there is room is known ahead: a host that has asked may not ask again at once.
func (w *World) poll(s Step) api.Errno {
	a, b := w.member(s.A), w.member(s.B)
	switch {
	case a == nil || b == nil:
		return api.ErrStep
	case w.isFull():
		return api.ErrFull
	}
	out, e := a.host.Poll(b.addr, w.shownBy(a), s.Draws)
	if e != api.OK {
		return e
	}
	w.write(Sent, a.addr, b.addr, out)
	return w.put(a.addr, b.addr, out)
}

// restart restarts a host.
func (w *World) restart(s Step) api.Errno {
	m := w.member(s.A)
	if m == nil {
		return api.ErrStep
	}
	return m.host.Restart(uint32(s.N))
}

// deliver hands a packet, which is on its way no more, to the host that it is for.
func (w *World) deliver(p Mail, draws []byte) (host.Heard, api.Errno) {
	m := w.at(p.To)
	if m == nil {
		return host.Heard{}, api.ErrNone
	}
	heard, e := m.host.Receive(p.From, p.Bytes, w.shownBy(m), draws)
	if e != api.OK {
		return host.Heard{}, e
	}
	switch heard.What {
	case host.Answered:
		if e := w.put(m.addr, p.From, heard.Out); e != api.OK {
			return host.Heard{}, e
		}
		w.write(Answered, m.addr, p.From, p.Bytes)
		w.write(Sent, m.addr, p.From, heard.Out)
	case host.Told:
		w.write(Told, m.addr, p.From, p.Bytes)
	}
	return heard, api.OK
}

// isFull tells whether there is no room for a packet more.
func (w *World) isFull() bool { return len(w.mail) == api.MaxMail }

// put lets a packet stand behind all others, in memory of its own.
func (w *World) put(from, to uint32, b []byte) api.Errno {
	if w.isFull() {
		return api.ErrFull
	}
	w.mail = append(w.mail, Mail{from, to, bytes.Clone(b)})
	return api.OK
}

// onWay is a packet on its way.
func (w *World) onWay(i int) (Mail, api.Errno) {
	if i < 0 || i >= len(w.mail) {
		return Mail{}, api.ErrStep
	}
	return w.mail[i], api.OK
}

// take takes a packet out, which is on its way no more then.
func (w *World) take(i int) (Mail, api.Errno) {
	m, e := w.onWay(i)
	if e == api.OK {
		w.mail = slices.Delete(w.mail, i, i+1)
	}
	return m, e
}

// write logs what happened to a host, with bytes in memory of the log's own.
func (w *World) write(kind int, addr, peer uint32, b []byte) {
	w.log = append(w.log, Event{kind, addr, peer, w.now, bytes.Clone(b)})
}
