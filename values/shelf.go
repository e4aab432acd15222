package values

import (
	"bytes"
	"slices"

	"clepsydra/api"
)

// mostRoom is how many sorts a shelf may have room for.
const mostRoom = 64

// mostSig is how many bytes a signature that is kept may have: those of the greatest key's.
const mostSig = 128

// Shelf keeps the newest values. One that no call made has no room.
type Shelf struct {
	room int
	held map[int]api.Value
}

// New is an empty shelf.
func New(room int) (*Shelf, api.Errno) {
	if room < 1 || room > mostRoom {
		return nil, api.ErrArg
	}
	return &Shelf{room: room, held: map[int]api.Value{}}, api.OK
}

// Put puts a value on the shelf.
func (s *Shelf) Put(sort int, v api.Value) api.Errno {
	if s.unmade() {
		return api.ErrNil
	}
	if sort < 0 {
		return api.ErrArg
	}
	if isLong(v) || len(v.Sig) > mostSig {
		return api.ErrLong
	}
	old, there := s.held[sort]
	if there && !Newer(v, old) {
		return api.ErrOld
	}
	if !there && len(s.held) == s.room {
		return api.ErrFull
	}
	s.held[sort] = copied(v)
	return api.OK
}

// Get is the value of a sort.
func (s *Shelf) Get(sort int) (api.Value, api.Errno) {
	if s.unmade() {
		return api.Value{}, api.ErrNil
	}
	v, there := s.held[sort]
	if !there {
		return api.Value{}, api.ErrNone
	}
	return copied(v), api.OK
}

// Sorts is the sorts that have a value.
func (s *Shelf) Sorts() []int {
	if s.unmade() {
		return nil
	}
	var out []int
	for sort := range s.held {
		out = append(out, sort)
	}
	slices.Sort(out)
	return out
}

// unmade tells whether no call made the shelf.
func (s *Shelf) unmade() bool { return s == nil || s.room == 0 }

// copied is a value of new memory.
func copied(v api.Value) api.Value {
	v.Data, v.Sig = bytes.Clone(v.Data), bytes.Clone(v.Sig)
	return v
}
