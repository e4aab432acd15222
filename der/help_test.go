package der_test

import (
	"bytes"
	"math/rand"
	"slices"
	"sort"
	"testing"

	"clepsydra/api"
)

// leaf is a value of bytes.
func leaf(tag int, b ...byte) api.Node { return api.Node{Tag: tag, Bytes: b} }

// seq and set are values of kids.
func seq(kids ...api.Node) api.Node { return api.Node{Tag: api.TagSeq, Kids: kids} }
func set(kids ...api.Node) api.Node { return api.Node{Tag: api.TagSet, Kids: kids} }

// within is a value within as many of a tag as are said.
func within(tag, levels int, n api.Node) api.Node {
	for range levels {
		n = api.Node{Tag: tag, Kids: []api.Node{n}}
	}
	return n
}

// many is a TagSeq of as many TagNulls as are said.
func many(n int) api.Node { return seq(slices.Repeat([]api.Node{leaf(api.TagNull)}, n)...) }

// octets is a TagOctets of as many bytes as are said.
func octets(n int) api.Node { return leaf(api.TagOctets, make([]byte, n)...) }

// mayHave tells whether a tag of bytes may have these, as its row says.
func mayHave(tag int, b []byte) bool {
	switch tag {
	case api.TagBool:
		return bytes.Equal(b, []byte{0}) || bytes.Equal(b, []byte{255})
	case api.TagInt:
		two := len(b) >= 2
		return len(b) >= 1 && !(two && b[0] == 0 && b[1] < 128) && !(two && b[0] == 255 && b[1] >= 128)
	case api.TagBits:
		if len(b) == 0 || b[0] > 7 || len(b) == 1 && b[0] > 0 {
			return false
		}
		for i := range int(b[0]) {
			if b[len(b)-1]>>i&1 != 0 {
				return false
			}
		}
		return true
	case api.TagNull:
		return len(b) == 0
	case api.TagText:
		return !slices.ContainsFunc(b, func(c byte) bool { return c < 32 || c > 126 })
	}
	return tag == api.TagOctets
}

// valuesOf and levelsOf count a value's values and levels.
func valuesOf(n api.Node) int {
	sum := 1
	for _, kid := range n.Kids {
		sum += valuesOf(kid)
	}
	return sum
}

func levelsOf(n api.Node) int {
	deepest := 0
	for _, kid := range n.Kids {
		deepest = max(deepest, levelsOf(kid))
	}
	return 1 + deepest
}

// isRight tells whether a value is right, word by word.
func isRight(n api.Node) bool {
	if valuesOf(n) > api.MaxNodes || levelsOf(n) > api.MaxLevels {
		return false
	}
	if n.Tag != api.TagSeq && n.Tag != api.TagSet {
		return len(n.Kids) == 0 && mayHave(n.Tag, n.Bytes)
	}
	for i, kid := range n.Kids {
		if !isRight(kid) || n.Tag == api.TagSet && i > 0 && bytes.Compare(bytesOf(n.Kids[i-1]), bytesOf(kid)) > 0 {
			return false
		}
	}
	return len(n.Bytes) == 0
}

// bytesOf is a right value's bytes, word by word.
func bytesOf(n api.Node) []byte {
	follow := slices.Clone(n.Bytes)
	for _, kid := range n.Kids {
		follow = append(follow, bytesOf(kid)...)
	}
	return slices.Concat([]byte{byte(n.Tag)}, lengthOf(len(follow)), follow)
}

// lengthOf is a length's bytes, word by word.
func lengthOf(n int) []byte {
	switch {
	case n < 1<<7:
		return []byte{byte(n)}
	case n < 1<<8:
		return []byte{129, byte(n)}
	case n < 1<<16:
		return []byte{130, byte(n >> 8), byte(n)}
	case n < 1<<24:
		return []byte{131, byte(n >> 16), byte(n >> 8), byte(n)}
	}
	return []byte{132, byte(n >> 24), byte(n >> 16), byte(n >> 8), byte(n)}
}

// read is what bytes are read as, or the first fault, word by word.
func read(b []byte) (n api.Node, fault api.Fault) {
	if len(b) > api.MaxDer {
		return n, api.Fault{At: 0, Code: api.ErrLong}
	}
	o := oracle{b: b}
	n, to := o.value(0, len(b), 1)
	if o.fault.Code == api.OK && to < len(b) {
		o.wrong(to, api.ErrRest)
	}
	if o.fault.Code != api.OK {
		n = api.Node{}
	}
	return n, o.fault
}

// oracle keeps the first fault.
type oracle struct {
	b     []byte
	met   int
	fault api.Fault
}

// wrong is met where something is wrong; what is met behind it does not count. It is beyond all bytes, so that nothing more is read.
func (o *oracle) wrong(at int, e api.Errno) int {
	if o.fault.Code == api.OK {
		o.fault = api.Fault{At: at, Code: e}
	}
	return len(o.b) + 1
}

// value is the value at a place, of so many levels with those around it, and the place behind it.
func (o *oracle) value(at, end, level int) (api.Node, int) {
	b, size := o.b, len(o.b)
	if at == size {
		return api.Node{}, o.wrong(size, api.ErrShort)
	}
	n := api.Node{Tag: int(b[at])}
	if !slices.Contains([]int{1, 2, 3, 4, 5, 12, 48, 49}, n.Tag) {
		return n, o.wrong(at, api.ErrTag)
	}
	if level > 16 {
		return n, o.wrong(at, api.ErrDeep)
	}
	o.met++
	if o.met > 4096 {
		return n, o.wrong(at, api.ErrLong)
	}
	from, to := o.length(at + 1)
	if o.fault.Code != api.OK {
		return n, to
	}
	if to > end && end < size {
		return n, o.wrong(at+1, api.ErrSize)
	}
	if to > end {
		return n, o.wrong(size, api.ErrShort)
	}
	if n.Tag < 48 {
		n.Bytes = b[from:to]
		if !mayHave(n.Tag, n.Bytes) {
			o.wrong(at, api.ErrValue)
		}
		return n, to
	}
	pieces := [][]byte{}
	for from < to {
		kid, next := o.value(from, to, level+1)
		if o.fault.Code != api.OK {
			return n, next
		}
		n.Kids = append(n.Kids, kid)
		pieces = append(pieces, b[from:next])
		from = next
	}
	if n.Tag == 49 && !sort.SliceIsSorted(pieces, func(i, j int) bool { return bytes.Compare(pieces[i], pieces[j]) < 0 }) {
		o.wrong(at, api.ErrValue)
	}
	return n, to
}

// length is where what follows the length at a place begins and ends.
func (o *oracle) length(at int) (int, int) {
	b := o.b[at:]
	switch {
	case len(b) == 0:
		return 0, o.wrong(len(o.b), api.ErrShort)
	case b[0] < 128:
		return at + 1, at + 1 + int(b[0])
	case b[0] == 128 || b[0] > 132:
		return 0, o.wrong(at, api.ErrSize)
	case len(b) == 1:
		return 0, o.wrong(len(o.b), api.ErrShort)
	case b[1] == 0:
		return 0, o.wrong(at, api.ErrSize)
	}
	count := int(b[0]) - 128
	if len(b) < 1+count {
		return 0, o.wrong(len(o.b), api.ErrShort)
	}
	length := 0
	for _, c := range b[1 : 1+count] {
		length = 256*length + int(c)
	}
	if !bytes.Equal(lengthOf(length), b[:1+count]) {
		return 0, o.wrong(at, api.ErrSize)
	}
	return at + 1 + count, at + 1 + count + length
}

// same tells whether two values are alike.
func same(a, b api.Node) bool {
	return a.Tag == b.Tag && bytes.Equal(a.Bytes, b.Bytes) && slices.EqualFunc(a.Kids, b.Kids, same)
}

// copied is a value in memory of its own.
func copied(n api.Node) api.Node {
	out := api.Node{Tag: n.Tag, Bytes: bytes.Clone(n.Bytes)}
	for _, kid := range n.Kids {
		out.Kids = append(out.Kids, copied(kid))
	}
	return out
}

// anyBytes are bytes that a tag may have, by chance.
func anyBytes(r *rand.Rand, tag int) []byte {
	b := make([]byte, r.Intn(6))
	if r.Intn(12) == 0 {
		b = make([]byte, r.Intn(300))
	}
	for {
		for i := range b {
			b[i] = []byte{0, 255, byte(r.Intn(8)), byte(32 + r.Intn(95)), byte(r.Intn(256))}[r.Intn(5)]
			if tag == api.TagText {
				b[i] = byte(32 + r.Intn(95))
			}
		}
		if mayHave(tag, b) {
			return b
		}
		b = make([]byte, r.Intn(4))
	}
}

// anyRight is a right value, by chance.
func anyRight(r *rand.Rand, levels int) api.Node {
	tags := []int{api.TagBool, api.TagInt, api.TagBits, api.TagOctets, api.TagNull, api.TagText}
	if levels == 1 || r.Intn(3) == 0 {
		tag := tags[r.Intn(len(tags))]
		return api.Node{Tag: tag, Bytes: anyBytes(r, tag)}
	}
	n := api.Node{Tag: api.TagSeq + r.Intn(2)}
	for range r.Intn(5) {
		n.Kids = append(n.Kids, anyRight(r, levels-1))
	}
	if n.Tag == api.TagSet {
		sort.SliceStable(n.Kids, func(i, j int) bool { return bytes.Compare(bytesOf(n.Kids[i]), bytesOf(n.Kids[j])) < 0 })
	}
	return n
}

// spoiled is a value of which one thing is another, by chance.
func spoiled(r *rand.Rand, n api.Node) api.Node {
	out := copied(n)
	at := &out
	for len(at.Kids) > 0 && r.Intn(4) > 0 {
		at = &at.Kids[r.Intn(len(at.Kids))]
	}
	switch r.Intn(5) {
	case 0:
		at.Tag = []int{0, 1, 2, 3, 4, 5, 6, 12, 13, 47, 48, 49, 50, 255, 256, 304, -1}[r.Intn(17)]
	case 1:
		at.Bytes = append(at.Bytes, byte(r.Intn(256)))
	case 2:
		if len(at.Bytes) > 0 {
			at.Bytes[r.Intn(len(at.Bytes))] = byte(r.Intn(256))
		}
	case 3:
		at.Kids = append(at.Kids, anyRight(r, 1))
	case 4:
		r.Shuffle(len(at.Kids), func(i, j int) { at.Kids[i], at.Kids[j] = at.Kids[j], at.Kids[i] })
	}
	return out
}

// kept is a copy of a list, with others behind its end, and what tells whether all of it is as it was.
func kept(b []byte) ([]byte, func() bool) {
	whole := slices.Concat(b, []byte{5, 255, 0, 48})
	before := slices.Clone(whole)
	return whole[:len(b)], func() bool { return bytes.Equal(whole, before) }
}

// keptNode is the same of a value, and of all its lists.
func keptNode(n api.Node) (api.Node, func() bool) {
	b, bKept := kept(n.Bytes)
	out, all := api.Node{Tag: n.Tag, Bytes: b}, []func() bool{bKept}
	var kids []api.Node
	for _, kid := range n.Kids {
		kid, kidKept := keptNode(kid)
		kids, all = append(kids, kid), append(all, kidKept)
	}
	behind := []api.Node{{Tag: 77}, leaf(api.TagText, 0)}
	before := slices.Concat(kids, behind)
	whole := slices.Clone(before)
	out.Kids = whole[:len(kids)]
	return out, func() bool {
		for _, f := range all {
			if !f() {
				return false
			}
		}
		return slices.EqualFunc(whole, before, same)
	}
}

// fill writes over all of a value's memory.
func fill(n api.Node) {
	fillBytes(n.Bytes)
	for i := range n.Kids[:cap(n.Kids)] {
		fill(n.Kids[:cap(n.Kids)][i])
		n.Kids[:cap(n.Kids)][i] = api.Node{Tag: 99}
	}
}

func fillBytes(b []byte) {
	for i := range b[:cap(b)] {
		b[:cap(b)][i] = 0x5c
	}
}

// wantErr fails, if an answer is not the error that is wanted, and nothing else.
func wantErr(t *testing.T, what string, empty bool, e, want api.Errno) {
	t.Helper()
	if e != want || !empty {
		t.Errorf("%s: %v, and nothing else: %v; want %v", what, e, empty, want)
	}
}
