package host

import (
	"clepsydra/api"
	"clepsydra/der"
	"clepsydra/keys"
	"clepsydra/nat"
	"clepsydra/sha"
	"clepsydra/wire"
)

// openSeal is the cookie that seals what does not tell the time: everybody knows it.
const openSeal = 0

const (
	wordBytes = 4
	faceBytes = 16
)

// version is that of all packets.
const version = 4

// letter is a packet that came in, from whom and when, and what is drawn for its answer.
type letter struct {
	api.Packet
	front []byte
	from  uint32
	now   uint64
	draws []byte
}

// sealedFor tells whether a letter is sealed for an address by a cookie.
func (l letter) sealedFor(addr, cookie uint32) bool {
	return keys.Sealed(l.from, addr, l.Mac.Key, cookie, l.front, l.Mac.Sum)
}

// sealed is the bytes of a packet without a Mac, and of one that seals it.
func sealed(p api.Packet, from, to, key, cookie uint32) []byte {
	sum := keys.Mac(keys.Session(from, to, key, cookie), written(p))
	p.Mac = api.Mac{Has: true, Key: key, Sum: sum}
	return written(p)
}

// written is the bytes of a packet that a host made: it is right.
func written(p api.Packet) []byte {
	b, _ := wire.Write(p)
	return b
}

// textOf is a key's text.
func textOf(k api.Key) []byte {
	b, _ := der.Write(api.Node{Tag: api.TagSeq, Kids: []api.Node{der.Nat(k.N), der.Nat(k.E)}})
	return b
}

// keyOf is the public key whose text some bytes are; one that is not right, if they are none's.
func keyOf(text []byte) api.Key {
	seq, _ := der.Read(text)
	if seq.Tag != api.TagSeq || len(seq.Kids) != 2 {
		return api.Key{}
	}
	n, _ := der.NatOf(seq.Kids[0])
	e, _ := der.NatOf(seq.Kids[1])
	return api.Key{N: n, E: e}
}

// faceOf is the face of the key that has a text.
func faceOf(text []byte) []byte {
	face, _ := sha.Trunc(text, faceBytes)
	return face
}

// sizeOf is how many bytes a number's digits take.
func sizeOf(a api.Nat) int { return (nat.Bits(a) + 7) / 8 }

// bytesOf is a number's four bytes, the greatest first.
func bytesOf(n uint32) []byte {
	return []byte{byte(n >> 24), byte(n >> 16), byte(n >> 8), byte(n)}
}

// wordOf is the number of four bytes, the greatest first.
func wordOf(b []byte) uint32 {
	return uint32(b[0])<<24 | uint32(b[1])<<16 | uint32(b[2])<<8 | uint32(b[3])
}
