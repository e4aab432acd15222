package wire_test

import (
	"bytes"
	"math/rand"
	"slices"
	"testing"

	"clepsydra/api"
	"clepsydra/wire"
)

// P10.2: Read.

// readAs fails, if Read or Front do not answer word by word.
func readAs(t *testing.T, b []byte) api.Fault {
	t.Helper()
	p, fault := wire.Read(b)
	want, end, wrong := read(b)
	if fault != wrong || !same(p, want) {
		t.Fatalf("Read(%v) = %v, %v, want %v, %v", b, p, fault, want, wrong)
	}
	if front, e := wire.Front(b); e != wrong.Code || !bytes.Equal(front, b[:end]) {
		t.Fatalf("Front(%v) = %v, %v, want %d bytes, %v", b, front, e, end, wrong.Code)
	}
	return fault
}

func TestRead(t *testing.T) {
	for _, p := range rights() {
		b := bytesOf(p)
		if got, fault := wire.Read(b); fault != (api.Fault{}) || !same(got, p) {
			t.Fatalf("Read(%v) = %v, %v, want %v", b, got, fault, p)
		}
		readAs(t, b)
	}
}

// faultOf is bytes that are no packet, and what is told of them.
type faultOf struct {
	b    []byte
	want api.Fault
}

// put is bytes with others from a place on.
func put(b []byte, at int, others ...byte) []byte {
	out := slices.Clone(b)
	copy(out[at:], others)
	return out
}

// faults are bytes that are no packets.
func faults() []faultOf {
	var l []faultOf
	add := func(b []byte, at int, code api.Errno) {
		l = append(l, faultOf{b, api.Fault{At: at, Code: code}})
	}
	headFaults(add)
	fieldFaults(add)
	countFaults(add)
	macFaults(add)
	return l
}

func headFaults(add func(b []byte, at int, code api.Errno)) {
	plain := bytesOf(small())
	for _, n := range []int{8193, 8194, 8196, 65536, 1 << 20} {
		add(make([]byte, n), 0, api.ErrLong)
		add(append(bytes.Clone(plain), make([]byte, n-48)...), 0, api.ErrLong)
	}
	for n := range 48 {
		add(plain[:n], n, api.ErrShort)
		add(make([]byte, n), n, api.ErrShort)
	}
	for first := range 256 {
		if first/8%8 != 4 || first%8 == 0 || first%8 > 5 {
			add(put(plain, 0, byte(first)), 0, api.ErrHead)
			// Of several the first one is told.
			add(put(plain, 0, byte(first), 17, 18), 0, api.ErrHead)
		}
	}
	for n := range 256 {
		if n > 16 {
			add(put(plain, 1, byte(n)), 1, api.ErrHead)
			add(put(plain, 1, byte(n), 255), 1, api.ErrHead)
		}
		if n > 17 {
			add(put(plain, 2, byte(n)), 2, api.ErrHead)
		}
	}
	add(append(put(plain, 2, 18), 1), 2, api.ErrHead)
	add(append(put(plain, 1, 17), make([]byte, 30)...), 1, api.ErrHead)
}

// fieldFaults are fields of which one thing is wrong, behind other fields, and ahead of more.
func fieldFaults(add func(b []byte, at int, code api.Errno)) {
	field := fieldOf(api.Ext{Op: 5, Value: text(5), Sig: text(6)}) // 24, 8 and 8 bytes
	bare := fieldOf(api.Ext{Op: 5})
	long := fieldOf(api.Ext{Op: 5, Value: text(2048), Sig: text(2048)})
	wrong := [][]byte{
		put(field, 1, 1), put(field, 1, 255), put(field, 6, 1), put(field, 7, 1), put(field, 6, 128), put(field, 7, 128), put(field, 0, 0), put(field, 0, 64), put(field, 0, 128), put(field, 0, 192),
		// The number of its bytes.
		put(field, 2, 0, 0), put(field, 2, 0, 39), put(field, 2, 0, 41), put(field, 2, 0, 42), put(field, 2, 0, 36), put(field, 2, 0, 44), put(field, 2, 0, 20), put(field, 2, 0, 23), put(field, 2, 0, 24),
		put(field, 2, 1, 40), put(field, 2, 255, 255), put(field, 2, 255, 252), put(field, 2, 0, 4), put(bare, 2, 0, 28), put(bare, 2, 0, 20), put(bare, 2, 0, 25),
		// The lengths of Value and Sig.
		put(field, 16, 0, 0, 0, 0), put(field, 16, 0, 0, 0, 4), put(field, 16, 0, 0, 0, 9), put(field, 16, 0, 0, 0, 12), put(field, 16, 0, 0, 0, 16), put(field, 16, 0, 0, 0, 17), put(field, 16, 255, 255, 255, 255),
		put(field, 16, 255, 255, 255, 253), put(field, 16, 128, 0, 0, 5), put(field, 16, 1, 0, 0, 5), put(field, 16, 0, 1, 0, 5), put(field, 16, 0, 0, 8, 5), put(field, 16, 127, 255, 255, 255),
		put(field, 28, 0, 0, 0, 0), put(field, 28, 0, 0, 0, 4), put(field, 28, 0, 0, 0, 9), put(field, 28, 255, 255, 255, 255), put(field, 28, 255, 255, 255, 254), put(field, 28, 128, 0, 0, 6), put(field, 28, 0, 1, 0, 6),
		put(bare, 16, 0, 0, 0, 1), put(bare, 16, 0, 0, 0, 4), put(bare, 20, 0, 0, 0, 1), put(bare, 20, 0, 0, 0, 4), put(bare, 16, 0, 0, 0, 5),
		// Above what they may be, and else as they should.
		lengthened(long, 16, 2049), lengthened(long, 16, 2052), lengthened(long, 20+2048, 2049), lengthened(long, 20+2048, 2052), lengthened(field, 16, 4096), lengthened(field, 28, 4096),
		// What fills up.
		put(field, 25, 1), put(field, 26, 1), put(field, 27, 1), put(field, 38, 1), put(field, 39, 1), put(field, 27, 255), put(field, 39, 128),
	}
	plain := bytesOf(small())
	for _, ahead := range [][]byte{plain, slices.Concat(plain, field), slices.Concat(plain, bare, field)} {
		for _, x := range wrong {
			for _, behind := range [][]byte{nil, make([]byte, 4), text(20)} {
				b := slices.Concat(ahead, x, behind)
				add(b, len(ahead), api.ErrExt)
			}
		}
		// The first wrong one is told.
		add(slices.Concat(ahead, wrong[0], wrong[1], []byte{1}), len(ahead), api.ErrExt)
		// More than 20 bytes are left, and they are no field.
		for n := 21; n < 24; n++ {
			add(slices.Concat(ahead, bare[:n]), len(ahead), api.ErrExt)
			add(slices.Concat(ahead, put(bare, 3, byte(n))[:n]), len(ahead), api.ErrExt)
			add(slices.Concat(ahead, make([]byte, n)), len(ahead), api.ErrExt)
			add(slices.Concat(ahead, text(n)), len(ahead), api.ErrExt)
		}
		for n := 24; n < len(field); n++ {
			add(slices.Concat(ahead, field[:n]), len(ahead), api.ErrExt)
		}
	}
}

// lengthened is a field with another length at a place, with as many bytes more there, and its number of bytes as it should be.
func lengthened(field []byte, at, length int) []byte {
	old := int(field[at+2])<<8 | int(field[at+3])
	more := (length+3)/4*4 - (old+3)/4*4
	out := slices.Insert(put(field, at, 0, 0, byte(length>>8), byte(length)), at+4, make([]byte, more)...)
	return put(out, 2, byte(len(out)>>8), byte(len(out)))
}

// countFaults are packets with a field too many.
func countFaults(add func(b []byte, at int, code api.Errno)) {
	for _, x := range []api.Ext{{Op: 5}, {Op: 5, Value: text(5), Sig: text(6)}} {
		field := fieldOf(x)
		full := slices.Concat(bytesOf(small()), bytes.Repeat(field, 8))
		for _, behind := range [][]byte{field, put(field, 0, 0), put(field, 3, 20), field[:21], make([]byte, 21), bytes.Repeat(field, 3), text(200)} {
			add(slices.Concat(full, behind), len(full), api.ErrExt)
		}
		for _, n := range []int{1, 2, 3, 5, 6, 16, 19} {
			add(slices.Concat(full, text(n)), len(full), api.ErrMac)
		}
	}
}

// macFaults are packets behind whose fields there are neither 0, nor 4, nor 20 bytes.
func macFaults(add func(b []byte, at int, code api.Errno)) {
	for _, p := range []api.Packet{small(), withExts(api.Ext{Op: 1}), withExts(api.Ext{Op: 1}, api.Ext{Op: 2, Value: text(9)})} {
		b := bytesOf(p)
		for n := 1; n < 20; n++ {
			if n != 4 {
				add(slices.Concat(b, text(n)), len(b), api.ErrMac)
				add(slices.Concat(b, make([]byte, n)), len(b), api.ErrMac)
			}
		}
	}
}

func TestReadFaults(t *testing.T) {
	for _, c := range faults() {
		p, fault := wire.Read(c.b)
		if fault != c.want || !same(p, api.Packet{}) {
			t.Errorf("Read(%v) = %v, %v, want %v", c.b, p, fault, c.want)
		}
		readAs(t, c.b)
	}
}

// At the limit of a packet's bytes, and beyond it.
func TestReadToTheLimit(t *testing.T) {
	for n := 8100; n <= 8300; n += 4 {
		for _, behind := range []int{0, 4, 20, 1, 3, 5, 21} {
			b := slices.Concat(bytesOf(sized(n)), text(behind))
			fault := readAs(t, b)
			switch {
			case len(b) > 8192 && fault != (api.Fault{Code: api.ErrLong}):
				t.Errorf("Read of %d bytes: %v", len(b), fault)
			case len(b) <= 8192 && behind%16 == 4 && fault != (api.Fault{}):
				t.Errorf("Read of %d bytes: %v", len(b), fault)
			}
		}
	}
}

// A Mac's bytes are never a field, whatever they are.
func TestReadMacs(t *testing.T) {
	for _, p := range []api.Packet{small(), withExts(api.Ext{Op: 9, Value: text(3)}), withExts(slices.Repeat([]api.Ext{{Op: 9}}, 8)...)} {
		front := bytesOf(p)
		for _, mac := range [][]byte{make([]byte, 4), {1, 0, 0, 24}, {255, 255, 255, 255}, make([]byte, 20), fieldOf(api.Ext{Op: 1})[:20], text(20), bytes.Repeat([]byte{255}, 20)} {
			got, fault := wire.Read(slices.Concat(front, mac))
			want := p
			want.Mac = api.Mac{Has: true, Key: uint32(mac[0])<<24 | uint32(mac[1])<<16 | uint32(mac[2])<<8 | uint32(mac[3]), Sum: mac[4:]}
			if fault != (api.Fault{}) || !same(got, want) || wire.Nak(got) != (len(mac) == 4) {
				t.Errorf("Read with the Mac %v = %v, %v", mac, got, fault)
			}
		}
	}
}

// All bytes of a few at the places of a field that tell how it is built.
func TestReadAll(t *testing.T) {
	plain := bytesOf(small())
	codes := map[api.Errno]int{}
	few := []byte{0, 1, 4, 5, 8}
	for _, size := range []byte{24, 28, 32, 36} {
		for _, behind := range []int{0, 4, 20} {
			for n := range 5 * 5 * 5 * 5 {
				b := slices.Concat(plain, make([]byte, int(size)+behind))
				b[48], b[51], b[67], b[71], b[48+size-1] = 9, size, few[n%5], few[n/5%5], few[n/25%5]
				if size > 24 {
					b[75] = few[n/125]
				}
				codes[readAs(t, b).Code]++
			}
		}
	}
	if codes[api.OK] < 100 || codes[api.ErrExt] < 100 {
		t.Errorf("too few are met: %v", codes)
	}
}

func TestReadByChance(t *testing.T) {
	r := rand.New(rand.NewSource(103))
	codes := map[api.Errno]int{}
	for range 20000 {
		b := bytesOf(anyPacket(r))
		for range 1 + r.Intn(2) {
			b = changed(r, b)
		}
		codes[readAs(t, b).Code]++
	}
	for _, e := range []api.Errno{api.OK, api.ErrHead, api.ErrExt, api.ErrMac} {
		if codes[e] < 200 {
			t.Errorf("%v is met %d times", e, codes[e])
		}
	}
}

// changed are bytes of which some are others, lack, or are put in, by chance.
func changed(r *rand.Rand, b []byte) []byte {
	at, c := r.Intn(len(b)), byte(r.Intn(256))
	if r.Intn(2) == 0 {
		c = []byte{0, 1, 4, 24, 28, 64, 128, 255}[r.Intn(8)]
	}
	if len(b) > 60 && r.Intn(2) == 0 {
		at = 48 + r.Intn(len(b)-48)
	}
	out := slices.Clone(b)
	switch r.Intn(6) {
	case 0:
		return slices.Insert(out, at, c)
	case 1:
		return slices.Delete(out, at, at+1)
	case 2:
		return slices.Insert(out, at, make([]byte, 4)...)
	case 3:
		return slices.Delete(out, at, min(at+4, len(out)))
	}
	out[at] = c
	return out
}
