package der

import (
	"bytes"

	"clepsydra/api"
)

// mostLengthBytes is how many bytes of a length may stand behind its first.
const mostLengthBytes = 4

// reader reads values from the left: at is the next byte, and ahead are so many values.
type reader struct {
	b         []byte
	at, ahead int
}

// place is where a value stands: its first byte, and the first one behind it.
type place struct{ from, to int }

// Read reads a value.
func Read(b []byte) (api.Node, api.Fault) {
	if len(b) > api.MaxDer {
		return api.Node{}, api.Fault{Code: api.ErrLong}
	}
	r := reader{b: b}
	n, fault := r.value(len(b), api.MaxLevels)
	if fault.Code == api.OK && r.at < len(b) {
		fault = api.Fault{At: r.at, Code: api.ErrRest}
	}
	if fault.Code != api.OK {
		return api.Node{}, fault
	}
	return n, api.Fault{}
}

// value reads a value that may not go beyond an end, and has so many levels left.
func (r *reader) value(end, levels int) (api.Node, api.Fault) {
	from := r.at
	tag, fault := r.tag(levels)
	if fault.Code != api.OK {
		return api.Node{}, fault
	}
	to, fault := r.end(end)
	if fault.Code != api.OK {
		return api.Node{}, fault
	}
	n, right := api.Node{Tag: tag}, false
	if hasKids(tag) {
		n.Kids, right, fault = r.kids(tag, to, levels-1)
	} else {
		n.Bytes, right = r.bytes(tag, to)
	}
	if fault.Code == api.OK && !right {
		fault = api.Fault{At: from, Code: api.ErrValue}
	}
	return n, fault
}

// tag reads the tag of a value that has so many levels left.
func (r *reader) tag(levels int) (int, api.Fault) {
	if r.at == len(r.b) {
		return 0, api.Fault{At: r.at, Code: api.ErrShort}
	}
	tag := int(r.b[r.at])
	switch {
	case !isTag(tag):
		return 0, api.Fault{At: r.at, Code: api.ErrTag}
	case levels == 0:
		return 0, api.Fault{At: r.at, Code: api.ErrDeep}
	case r.ahead == api.MaxNodes:
		return 0, api.Fault{At: r.at, Code: api.ErrLong}
	}
	r.at++
	r.ahead++
	return tag, api.Fault{}
}

// end reads a length, and is where what follows ends, which may not be beyond the end of what is around it.
func (r *reader) end(around int) (int, api.Fault) {
	from := r.at
	length, fault := r.length()
	switch {
	case fault.Code != api.OK:
		return 0, fault
	case length <= around-r.at:
		return r.at + length, api.Fault{}
	case around < len(r.b):
		return 0, api.Fault{At: from, Code: api.ErrSize}
	}
	return 0, api.Fault{At: len(r.b), Code: api.ErrShort}
}

// length reads a length. Its bytes are taken wherever they stand: whether they go beyond what is around them is asked behind the last one.
func (r *reader) length() (int, api.Fault) {
	from, left, length := r.at, 0, 0
	if r.at == len(r.b) {
		goto short
	}
	length = int(r.b[r.at])
	r.at++
	if length < manyBytes {
		return length, api.Fault{}
	}
	left, length = length-manyBytes, 0
	if left == 0 || left > mostLengthBytes {
		goto wrong
	}
more:
	if r.at == len(r.b) {
		goto short
	}
	length = length<<8 | int(r.b[r.at])
	r.at++
	// So far it is 0 where a 0 stands ahead alone.
	if length == 0 {
		goto wrong
	}
	left--
	if left > 0 {
		goto more
	}
	if length < manyBytes {
		goto wrong
	}
	return length, api.Fault{}
short:
	return 0, api.Fault{At: len(r.b), Code: api.ErrShort}
wrong:
	return 0, api.Fault{At: from, Code: api.ErrSize}
}

// bytes reads the bytes of a value without kids, and tells whether its tag may have them.
func (r *reader) bytes(tag, end int) ([]byte, bool) {
	b := bytes.Clone(r.b[r.at:end])
	r.at = end
	return b, mayHave(tag, b)
}

// kids reads a value's kids, and tells whether its tag may have them.
func (r *reader) kids(tag, end, levels int) ([]api.Node, bool, api.Fault) {
	var list []api.Node
	var places []place
	for r.at < end {
		from := r.at
		kid, fault := r.value(end, levels)
		if fault.Code != api.OK {
			return nil, false, fault
		}
		list = append(list, kid)
		places = append(places, place{from, r.at})
	}
	right := tag != api.TagSet || neighbours(places, func(a, b place) bool {
		return bytes.Compare(r.b[a.from:a.to], r.b[b.from:b.to]) <= 0
	})
	return list, right, api.Fault{}
}
