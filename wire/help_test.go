package wire_test

import (
	"bytes"
	"encoding/binary"
	"math"
	"math/rand"
	"slices"

	"clepsydra/api"
)

// isRight tells whether a packet is right, word by word.
func isRight(p api.Packet) bool {
	head := p.Leap >= 0 && p.Leap <= 3 && p.Version == 4 && p.Mode >= 1 && p.Mode <= 5 && p.Stratum >= 0 && p.Stratum <= 16 && p.Poll >= 0 && p.Poll <= 17 && p.Prec >= -128 && p.Prec <= 127
	mac := !p.Mac.Has && p.Mac.Key == 0 && len(p.Mac.Sum) == 0 || p.Mac.Has && (len(p.Mac.Sum) == 0 || len(p.Mac.Sum) == 16)
	if !head || !mac || len(p.Exts) > 8 {
		return false
	}
	for _, x := range p.Exts {
		if x.Op < 1 || x.Op > 63 || x.Assoc < 0 || x.Assoc > 65535 || len(x.Value) > 2048 || len(x.Sig) > 2048 {
			return false
		}
	}
	return len(bytesOf(p)) <= 8192
}

// bytesOf is a packet's bytes, word by word; of numbers that have no room the lowest bytes.
func bytesOf(p api.Packet) []byte {
	b := []byte{byte(p.Leap*64 + p.Version*8 + p.Mode), byte(p.Stratum), byte(p.Poll), byte(p.Prec)}
	for _, n := range []uint32{p.Delay, p.Disp, p.RefID} {
		b = binary.BigEndian.AppendUint32(b, n)
	}
	for _, n := range []uint64{p.Ref, p.Org, p.Rec, p.Xmt} {
		b = binary.BigEndian.AppendUint64(b, n)
	}
	for _, x := range p.Exts {
		b = append(b, fieldOf(x)...)
	}
	if p.Mac.Has {
		b = append(binary.BigEndian.AppendUint32(b, p.Mac.Key), p.Mac.Sum...)
	}
	return b
}

// fieldOf is a field's bytes.
func fieldOf(x api.Ext) []byte {
	value, sig := filled(x.Value), filled(x.Sig)
	first := byte(x.Op)
	if x.Resp {
		first += 128
	}
	if x.Bad {
		first += 64
	}
	b := []byte{first, 0}
	b = binary.BigEndian.AppendUint16(b, uint16(24+len(value)+len(sig)))
	b = binary.BigEndian.AppendUint16(b, uint16(x.Assoc))
	b = append(b, 0, 0)
	b = binary.BigEndian.AppendUint32(b, x.TS)
	b = binary.BigEndian.AppendUint32(b, x.FS)
	b = append(binary.BigEndian.AppendUint32(b, uint32(len(x.Value))), value...)
	return append(binary.BigEndian.AppendUint32(b, uint32(len(x.Sig))), sig...)
}

// filled are bytes, and noughts behind them.
func filled(b []byte) []byte {
	out := slices.Clone(b)
	for len(out)%4 != 0 {
		out = append(out, 0)
	}
	return out
}

// read is what is read of some bytes, word by word, and where its fields end. A field is one, if what it tells is written as it stands.
func read(b []byte) (api.Packet, int, api.Fault) {
	fault := func(at int, code api.Errno) (api.Packet, int, api.Fault) {
		return api.Packet{}, 0, api.Fault{At: at, Code: code}
	}
	big := binary.BigEndian
	switch {
	case len(b) > 8192:
		return fault(0, api.ErrLong)
	case len(b) < 48:
		return fault(len(b), api.ErrShort)
	case b[0]/8%8 != 4 || b[0]%8 < 1 || b[0]%8 > 5:
		return fault(0, api.ErrHead)
	case b[1] > 16:
		return fault(1, api.ErrHead)
	case b[2] > 17:
		return fault(2, api.ErrHead)
	}
	p := api.Packet{
		Leap: int(b[0] / 64), Version: 4, Mode: int(b[0] % 8), Stratum: int(b[1]), Poll: int(b[2]), Prec: int(int8(b[3])),
		Delay: big.Uint32(b[4:]), Disp: big.Uint32(b[8:]), RefID: big.Uint32(b[12:]), Ref: big.Uint64(b[16:]), Org: big.Uint64(b[24:]), Rec: big.Uint64(b[32:]), Xmt: big.Uint64(b[40:]),
	}
	at := 48
	for len(b)-at > 20 {
		x, ok := fieldIn(b[at:])
		if !ok || len(p.Exts) == 8 {
			return fault(at, api.ErrExt)
		}
		p.Exts = append(p.Exts, x)
		at += len(fieldOf(x))
	}
	switch len(b) - at {
	case 0:
	case 4, 20:
		p.Mac = api.Mac{Has: true, Key: big.Uint32(b[at:]), Sum: slices.Clone(b[at+4:])}
	default:
		return fault(at, api.ErrMac)
	}
	return p, at, api.Fault{}
}

// fieldIn is the field that some bytes begin with.
func fieldIn(b []byte) (api.Ext, bool) {
	big := binary.BigEndian
	if len(b) < 24 {
		return api.Ext{}, false
	}
	size := int(big.Uint16(b[2:]))
	length := int(big.Uint32(b[16:]))
	behind := 20 + (length+3)&^3
	if size < 24 || size > len(b) || length > 2048 || behind+4 > size {
		return api.Ext{}, false
	}
	sigLength := int(big.Uint32(b[behind:]))
	if sigLength > 2048 || behind+4+sigLength > size {
		return api.Ext{}, false
	}
	x := api.Ext{
		Op: int(b[0] % 64), Resp: b[0] >= 128, Bad: b[0]/64%2 == 1, Assoc: int(big.Uint16(b[4:])), TS: big.Uint32(b[8:]), FS: big.Uint32(b[12:]),
		Value: slices.Clone(b[20 : 20+length]), Sig: slices.Clone(b[behind+4 : behind+4+sigLength]),
	}
	return x, x.Op > 0 && bytes.Equal(fieldOf(x), b[:size])
}

// same tells whether two packets have the same in each field.
func same(a, b api.Packet) bool {
	one, other := a, b
	one.Exts, one.Mac.Sum, other.Exts, other.Mac.Sum = nil, nil, nil, nil
	return headOf(one) == headOf(other) && slices.EqualFunc(a.Exts, b.Exts, sameExt) && a.Mac.Has == b.Mac.Has && a.Mac.Key == b.Mac.Key && bytes.Equal(a.Mac.Sum, b.Mac.Sum)
}

// head is what can be compared of a packet.
type head struct {
	ints  [6]int
	words [3]uint32
	times [4]uint64
}

func headOf(p api.Packet) head {
	return head{[6]int{p.Leap, p.Version, p.Mode, p.Stratum, p.Poll, p.Prec}, [3]uint32{p.Delay, p.Disp, p.RefID}, [4]uint64{p.Ref, p.Org, p.Rec, p.Xmt}}
}

// sameExt tells the same of two fields.
func sameExt(a, b api.Ext) bool {
	return a.Op == b.Op && a.Resp == b.Resp && a.Bad == b.Bad && a.Assoc == b.Assoc && a.TS == b.TS && a.FS == b.FS && bytes.Equal(a.Value, b.Value) && bytes.Equal(a.Sig, b.Sig)
}

// small is the packet of the example.
func small() api.Packet { return api.Packet{Version: 4, Mode: 3} }

// with is the packet of the example with something changed.
func with(change func(p *api.Packet)) api.Packet {
	p := small()
	change(&p)
	return p
}

// withField is the packet of the example with a field, in which something is changed.
func withField(change func(x *api.Ext)) api.Packet {
	x := api.Ext{Op: 1}
	change(&x)
	return withExts(x)
}

// withExts is the packet of the example with fields.
func withExts(l ...api.Ext) api.Packet { return with(func(p *api.Packet) { p.Exts = l }) }

// text is as many bytes as are said, none of which is 0.
func text(n int) []byte {
	b := make([]byte, n)
	for i := range b {
		b[i] = byte(i%255 + 1)
	}
	return b
}

// sum is a Mac with a sum.
func sum() api.Mac { return api.Mac{Has: true, Key: 0x01020304, Sum: text(16)} }

// nak is a Mac without one.
func nak() api.Mac { return api.Mac{Has: true, Key: 7} }

// sized is a packet of just so many bytes, which 4 parts, of at least 96 and at most 8312, without a Mac.
func sized(n int) api.Packet {
	rest := n - 48 - 24 - 24
	first := min(rest, 4096)
	cut := func(n int) api.Ext {
		return api.Ext{Op: 9, Value: text(min(n, 2048)), Sig: text(max(0, n-2048))}
	}
	return withExts(cut(first), cut(rest-first))
}

// rights are right packets, at the edges of each field, and by chance.
func rights() []api.Packet {
	l := []api.Packet{small()}
	for _, n := range []int{0, 1, 2, 3} {
		l = append(l, with(func(p *api.Packet) { p.Leap = n }))
	}
	for mode := 1; mode <= 5; mode++ {
		l = append(l, with(func(p *api.Packet) { p.Mode = mode }))
	}
	for n := range 17 {
		l = append(l, with(func(p *api.Packet) { p.Stratum = n }), with(func(p *api.Packet) { p.Poll = n + 1 }))
	}
	for n := -128; n <= 127; n++ {
		l = append(l, with(func(p *api.Packet) { p.Prec = n }))
	}
	for op := 1; op <= 63; op++ {
		l = append(l, withField(func(x *api.Ext) { x.Op, x.Resp, x.Bad = op, op%2 == 0, op%3 == 0 }))
	}
	for _, n := range []int{0, 1, 2, 3, 4, 5, 7, 8, 9, 16, 20, 21, 255, 256, 2045, 2046, 2047, 2048} {
		l = append(l, withField(func(x *api.Ext) { x.Value = text(n) }), withField(func(x *api.Ext) { x.Sig = text(n) }), withField(func(x *api.Ext) { x.Value, x.Sig = text(n), text(2048-n) }))
		l = append(l, withField(func(x *api.Ext) { x.Value, x.Sig = make([]byte, n), make([]byte, n) }), withExts(api.Ext{Op: 5}, api.Ext{Op: 6, Value: text(n)}, api.Ext{Op: 7, Sig: text(n % 50)}))
	}
	for _, n := range []int{1, 255, 256, 32767, 32768, 65535} {
		l = append(l, withField(func(x *api.Ext) { x.Assoc = n }))
	}
	for n := range 9 {
		l = append(l, withExts(slices.Repeat([]api.Ext{{Op: 2, Resp: true, Value: text(n)}}, n)...), withExts(slices.Repeat([]api.Ext{{Op: 63}}, n)...))
	}
	l = append(l, sized(96), sized(8192), sized(8188), sized(8172), with(func(p *api.Packet) { p.Leap, p.Mode, p.Stratum, p.Poll, p.Prec = 3, 5, 16, 17, -1 }))
	l = append(l,
		with(func(p *api.Packet) { p.Delay, p.Disp, p.RefID = 1, 2, 3 }), with(func(p *api.Packet) { p.Delay, p.Disp, p.RefID = math.MaxUint32, 1<<31, 0x01020304 }),
		with(func(p *api.Packet) { p.Ref, p.Org, p.Rec, p.Xmt = 1, 2, 3, 4 }), with(func(p *api.Packet) { p.Ref, p.Org, p.Rec, p.Xmt = math.MaxUint64, 1<<63, 0x0102030405060708, 1<<32 }),
		withField(func(x *api.Ext) { x.TS, x.FS = 1, 2 }), withField(func(x *api.Ext) { x.TS, x.FS = math.MaxUint32, 0x01020304 }),
	)
	// Each of them has no Mac: with one, and with one that says no, they are right too, where there is room.
	for _, p := range slices.Clone(l) {
		for _, m := range []api.Mac{sum(), nak(), {Has: true}, {Has: true, Key: math.MaxUint32, Sum: make([]byte, 16)}} {
			p.Mac = m
			if len(bytesOf(p)) <= 8192 {
				l = append(l, p)
			}
		}
	}
	r := rand.New(rand.NewSource(101))
	for range 500 {
		l = append(l, anyPacket(r))
	}
	return l
}

// anyPacket is a right packet, by chance.
func anyPacket(r *rand.Rand) api.Packet {
	p := api.Packet{
		Leap: r.Intn(4), Version: 4, Mode: 1 + r.Intn(5), Stratum: r.Intn(17), Poll: r.Intn(18), Prec: r.Intn(256) - 128,
		Delay: r.Uint32(), Disp: r.Uint32(), RefID: r.Uint32(), Ref: r.Uint64(), Org: r.Uint64(), Rec: r.Uint64(), Xmt: r.Uint64(),
	}
	for range r.Intn(9) {
		p.Exts = append(p.Exts, api.Ext{
			Op: 1 + r.Intn(63), Resp: r.Intn(2) == 0, Bad: r.Intn(2) == 0, Assoc: r.Intn(65536), TS: r.Uint32(), FS: r.Uint32(), Value: anyBytes(r, 40), Sig: anyBytes(r, 40),
		})
	}
	switch r.Intn(3) {
	case 0:
		p.Mac = api.Mac{Has: true, Key: r.Uint32()}
	case 1:
		p.Mac = api.Mac{Has: true, Key: r.Uint32(), Sum: make([]byte, 16)}
		r.Read(p.Mac.Sum)
	}
	return p
}

// anyBytes are fewer bytes than are said.
func anyBytes(r *rand.Rand, n int) []byte {
	b := make([]byte, r.Intn(n))
	r.Read(b)
	return b
}

// wrongs are packets of which one thing is wrong.
func wrongs() []api.Packet {
	l := []api.Packet{{}, {Mode: 3}, {Version: 4}}
	for _, n := range []int{math.MinInt, -1 << 32, -1, 4, 7, 256, 1 << 32, 1<<32 + 1, math.MaxInt} {
		l = append(l, with(func(p *api.Packet) { p.Leap = n }))
	}
	for _, n := range []int{math.MinInt, -4, -1, 0, 1, 3, 5, 7, 12, 260, 1<<32 + 4, math.MaxInt} {
		l = append(l, with(func(p *api.Packet) { p.Version = n }))
	}
	for _, n := range []int{math.MinInt, -1, 0, 6, 7, 11, 256 + 3, 1<<32 + 3, math.MaxInt} {
		l = append(l, with(func(p *api.Packet) { p.Mode = n }))
	}
	for _, n := range []int{math.MinInt, -1, 17, 18, 255, 256, 1 << 32, math.MaxInt} {
		l = append(l, with(func(p *api.Packet) { p.Stratum = n }))
	}
	for _, n := range []int{math.MinInt, -1, 18, 19, 255, 256, 1 << 32, math.MaxInt} {
		l = append(l, with(func(p *api.Packet) { p.Poll = n }))
	}
	for _, n := range []int{math.MinInt, -129, -256, 128, 255, 256, 1 << 32, math.MaxInt} {
		l = append(l, with(func(p *api.Packet) { p.Prec = n }))
	}
	for _, n := range []int{math.MinInt, -1, 0, 64, 65, 128, 129, 256, 257, 1<<32 + 1, math.MaxInt} {
		l = append(l, withField(func(x *api.Ext) { x.Op = n }), withExts(api.Ext{Op: 1}, api.Ext{Op: 2}, api.Ext{Op: n}))
	}
	for _, n := range []int{math.MinInt, -1, 65536, 65537, 1 << 32, math.MaxInt} {
		l = append(l, withField(func(x *api.Ext) { x.Assoc = n }))
	}
	for _, n := range []int{2049, 2050, 2051, 2052, 4096, 65536, 1 << 20} {
		l = append(l, withField(func(x *api.Ext) { x.Value = text(n) }), withField(func(x *api.Ext) { x.Sig = text(n) }))
	}
	for _, n := range []int{9, 10, 100, 1 << 16} {
		l = append(l, withExts(slices.Repeat([]api.Ext{{Op: 1}}, n)...))
	}
	for _, n := range []int{1, 4, 12, 15, 17, 18, 20, 32, 1 << 20} {
		l = append(l, with(func(p *api.Packet) { p.Mac = api.Mac{Has: true, Sum: text(n)} }), with(func(p *api.Packet) { p.Mac = api.Mac{Sum: text(n)} }))
	}
	l = append(l, with(func(p *api.Packet) { p.Mac.Key = 1 }), with(func(p *api.Packet) { p.Mac.Key = math.MaxUint32 }), with(func(p *api.Packet) { p.Mac.Sum = text(16) }), with(func(p *api.Packet) { p.Mac = sum(); p.Mac.Has = false }))
	// Too long by their bytes alone.
	for _, n := range []int{8196, 8200, 8300} {
		l = append(l, sized(n))
	}
	for _, n := range []int{8176, 8180, 8192} {
		p := sized(n)
		p.Mac = sum()
		l = append(l, p)
	}
	p := sized(8192)
	p.Mac = nak()
	return append(l, p, withExts(slices.Repeat([]api.Ext{{Op: 1, Value: text(2048), Sig: text(2048)}}, 8)...))
}

// kept is a copy of a list, with others behind its end, and what tells whether all of it is as it was.
func kept(l []byte) ([]byte, func() bool) {
	whole := slices.Concat(l, []byte{9, 8, 7, 6})
	before := slices.Clone(whole)
	return whole[:len(l)], func() bool { return bytes.Equal(whole, before) }
}

// keptPacket is the same of a packet.
func keptPacket(p api.Packet) (api.Packet, func() bool) {
	var all []func() bool
	whole := append(slices.Clone(p.Exts), api.Ext{Op: 60, Value: text(5)})
	for i, x := range p.Exts {
		value, valueKept := kept(x.Value)
		sig, sigKept := kept(x.Sig)
		whole[i].Value, whole[i].Sig = value, sig
		all = append(all, valueKept, sigKept)
	}
	before := slices.Clone(whole)
	mac, macKept := kept(p.Mac.Sum)
	p.Exts, p.Mac.Sum = whole[:len(p.Exts)], mac
	return p, func() bool {
		return macKept() && slices.EqualFunc(whole, before, sameExt) && !slices.ContainsFunc(all, func(asBefore func() bool) bool { return !asBefore() })
	}
}

// fill writes over all of a list's memory.
func fill(b []byte) {
	for i := range b[:cap(b)] {
		b[:cap(b)][i] = 0x5c
	}
}
