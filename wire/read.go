package wire

import (
	"bytes"
	"iter"

	"clepsydra/api"
)

// Read reads a packet.
func Read(b []byte) (api.Packet, api.Fault) {
	p, _, fault := parse(b)
	return p, fault
}

// parse reads a packet, and tells where its fields end.
func parse(b []byte) (api.Packet, int, api.Fault) {
	if len(b) > api.MaxPacket {
		return refused(0, api.ErrLong)
	}
	if len(b) < headBytes {
		return refused(len(b), api.ErrShort)
	}
	p := headOf(b)
	switch {
	case !isKind(p):
		return refused(0, api.ErrHead)
	case !isStratum(p.Stratum):
		return refused(1, api.ErrHead)
	case !isPoll(p.Poll):
		return refused(2, api.ErrHead)
	}
	end := headBytes
	for at, field := range fields(b) {
		x, right := extOf(field)
		if !right || len(p.Exts) == api.MaxExts {
			return refused(at, api.ErrExt)
		}
		p.Exts = append(p.Exts, x)
		end = at + len(field)
	}
	mac, right := macOf(b[end:])
	if !right {
		return refused(end, api.ErrMac)
	}
	p.Mac = mac
	return p, end, api.Fault{}
}

// refused is what parse answers of bytes that are no packet.
func refused(at int, e api.Errno) (api.Packet, int, api.Fault) {
	return api.Packet{}, 0, api.Fault{At: at, Code: e}
}

// headOf is the packet whose head stands first in some bytes, without more.
func headOf(b []byte) api.Packet {
	return api.Packet{
		Leap: int(b[0] >> leapPlace), Version: int(b[0] >> versionPlace & 7), Mode: int(b[0] & 7),
		Stratum: int(b[1]), Poll: int(b[2]), Prec: int(int8(b[3])),
		Delay: word(b[4:8]), Disp: word(b[8:12]), RefID: word(b[12:16]),
		Ref: number(b[16:24]), Org: number(b[24:32]), Rec: number(b[32:40]), Xmt: number(b[40:48]),
	}
}

// fields yields where each field behind the head begins, and its bytes. Where the number of these is none that may be, it yields none, and nothing behind.
func fields(b []byte) iter.Seq2[int, []byte] {
	return func(yield func(int, []byte) bool) {
		for at := headBytes; len(b)-at > macBytes; {
			size := int(number(b[at+2 : at+4]))
			if size%4 != 0 || size < fieldBytes || size > len(b)-at {
				yield(at, nil)
				return
			}
			if !yield(at, b[at:at+size]) {
				return
			}
			at += size
		}
	}
}

// extOf is the field of some bytes, if they are one.
func extOf(b []byte) (api.Ext, bool) {
	if len(b) == 0 || b[1] != 0 || b[6] != 0 || b[7] != 0 {
		return api.Ext{}, false
	}
	value, rest, right := textOf(b[16:])
	if !right {
		return api.Ext{}, false
	}
	sig, rest, right := textOf(rest)
	x := api.Ext{
		Op: int(b[0] &^ (respBit | badBit)), Resp: b[0]&respBit != 0, Bad: b[0]&badBit != 0, Assoc: int(number(b[4:6])),
		TS: word(b[8:12]), FS: word(b[12:16]), Value: value, Sig: sig,
	}
	if !right || len(rest) > 0 || x.Op == 0 {
		return api.Ext{}, false
	}
	return x, true
}

// textOf is the bytes whose number stands first in others, and what stands behind these and what fills them up, if they are so.
func textOf(b []byte) ([]byte, []byte, bool) {
	if len(b) < 4 {
		return nil, nil, false
	}
	length, rest := number(b[:4]), b[4:]
	if length > api.MaxField || filled(int(length)) > len(rest) {
		return nil, nil, false
	}
	text, rest := rest[:length], rest[length:]
	filling := filled(len(text)) - len(text)
	for _, c := range rest[:filling] {
		if c != 0 {
			return nil, nil, false
		}
	}
	return bytes.Clone(text), rest[filling:], true
}

// macOf is the Mac of the bytes behind the fields, if they are one, or none.
func macOf(b []byte) (api.Mac, bool) {
	switch len(b) {
	case 0:
		return api.Mac{}, true
	case nakBytes, macBytes:
		return api.Mac{Has: true, Key: word(b[:nakBytes]), Sum: bytes.Clone(b[nakBytes:])}, true
	}
	return api.Mac{}, false
}

// number is the number of at most eight bytes, the greatest first.
func number(b []byte) uint64 {
	var n uint64
	for _, c := range b {
		n = n<<8 | uint64(c)
	}
	return n
}

// word is the number of four bytes.
func word(b []byte) uint32 { return uint32(number(b)) }
