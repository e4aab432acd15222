package der

import (
	"math/bits"

	"clepsydra/api"
	"clepsydra/nat"
)

// Int is a number's value.
func Int(a int) api.Node {
	// Without its sign a negative number is what its digits leave of ones: as many digits are needed.
	digits := bits.Len(uint(a ^ a>>(bits.UintSize-1)))
	return api.Node{Tag: api.TagInt, Bytes: lowest(a, digits/8+1)}
}

// IntOf is a value's number.
func IntOf(n api.Node) (int, api.Errno) {
	if n.Tag != api.TagInt || !Right(n) {
		return 0, api.ErrForm
	}
	if len(n.Bytes) > bits.UintSize/8 {
		return 0, api.ErrArg
	}
	a := 0
	if n.Bytes[0] >= 128 {
		a = -1
	}
	for _, b := range n.Bytes {
		a = a<<8 | int(b)
	}
	return a, api.OK
}

// Nat is a natural number's value.
func Nat(a api.Nat) api.Node {
	size := nat.Bits(a)/8 + 1
	out := make([]byte, size)
	for i := range min(size, 8*len(a)) {
		out[size-1-i] = byte(a[i/8] >> (8 * (i % 8)))
	}
	return api.Node{Tag: api.TagInt, Bytes: out}
}

// NatOf is a value's natural number.
func NatOf(n api.Node) (api.Nat, api.Errno) {
	if n.Tag != api.TagInt || !Right(n) {
		return nil, api.ErrForm
	}
	if n.Bytes[0] >= 128 {
		return nil, api.ErrArg
	}
	return nat.Read(n.Bytes), api.OK
}

// Text is a text's value.
func Text(s string) (api.Node, api.Errno) {
	b := []byte(s)
	if !isText(b) {
		return api.Node{}, api.ErrArg
	}
	return api.Node{Tag: api.TagText, Bytes: b}, api.OK
}

// TextOf is a value's text.
func TextOf(n api.Node) (string, api.Errno) {
	if n.Tag != api.TagText || !Right(n) {
		return "", api.ErrForm
	}
	return string(n.Bytes), api.OK
}
