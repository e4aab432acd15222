package audit

import (
	"bytes"
	"iter"

	"clepsydra/api"
	"clepsydra/net"
	"clepsydra/wire"
)

// thefts yields the place of each theft of a log, and who answered whom.
func thefts(log []net.Event, faces []Face) iter.Seq2[int, ends] {
	return func(yield func(int, ends) bool) {
		known := firstFaces(faces)
		for i, e := range log {
			if e.Kind != net.Answered || !asksForOther(e, known) {
				continue
			}
			if !yield(i, ends{e.Host, e.Peer}) {
				return
			}
		}
	}
}

// firstThefts are the places of the first thefts, by who answered whom.
func firstThefts(log []net.Event, faces []Face) map[ends]int {
	first := map[ends]int{}
	for at, between := range thefts(log, faces) {
		if _, there := first[between]; !there {
			first[between] = at
		}
	}
	return first
}

// firstFaces are the faces by their addresses: of several of one address the first.
func firstFaces(faces []Face) map[uint32]Face {
	known := map[uint32]Face{}
	for _, f := range faces {
		if _, there := known[f.Addr]; !there {
			known[f.Addr] = f
		}
	}
	return known
}

// asksForOther tells whether a request that was answered asks for a cookie by another key than that of the host it names as its sender.
func asksForOther(answered net.Event, known map[uint32]Face) bool {
	face, there := known[answered.Peer]
	// What is no packet has no fields.
	p, _ := wire.Read(answered.Bytes)
	for _, x := range p.Exts {
		if x.Op == api.OpCookie && (!there || !bytes.Equal(x.Value, face.Text)) {
			return true
		}
	}
	return false
}
