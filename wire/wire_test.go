package wire_test

import (
	"bytes"
	"math"
	"slices"
	"testing"

	"clepsydra/api"
	"clepsydra/wire"
)

// P10.1: Right, Write.

func TestRight(t *testing.T) {
	for _, p := range rights() {
		if e := wire.Right(p); e != api.OK || !isRight(p) {
			t.Errorf("Right(%v) = %v", p, e)
		}
	}
	for _, p := range wrongs() {
		if e := wire.Right(p); e != api.ErrForm || isRight(p) {
			t.Errorf("Right(%v) = %v", p, e)
		}
	}
}

// Each of a packet's numbers is tried, from below its least to beyond its greatest.
func TestRightOfEachNumber(t *testing.T) {
	for n := -300; n <= 300; n++ {
		for _, p := range []api.Packet{
			with(func(p *api.Packet) { p.Leap = n }), with(func(p *api.Packet) { p.Version = n }), with(func(p *api.Packet) { p.Mode = n }), with(func(p *api.Packet) { p.Stratum = n }),
			with(func(p *api.Packet) { p.Poll = n }), with(func(p *api.Packet) { p.Prec = n }), withField(func(x *api.Ext) { x.Op = n }), withField(func(x *api.Ext) { x.Assoc = n }),
		} {
			if e := wire.Right(p); (e == api.OK) != isRight(p) || e != api.OK && e != api.ErrForm {
				t.Errorf("Right(%v) = %v", p, e)
			}
		}
	}
}

func TestWrite(t *testing.T) {
	for _, p := range rights() {
		if b, e := wire.Write(p); e != api.OK || !bytes.Equal(b, bytesOf(p)) {
			t.Fatalf("Write(%v) = %x, %v, want %x", p, b, e, bytesOf(p))
		}
	}
	for _, p := range wrongs() {
		if b, e := wire.Write(p); e != api.ErrForm || len(b) > 0 {
			t.Fatalf("Write(%v) = %x, %v", p, b, e)
		}
	}
}

// At the limit of a packet's bytes, and one step beyond it.
func TestWriteToTheLimit(t *testing.T) {
	for n := 8100; n <= 8300; n += 4 {
		for _, m := range []api.Mac{{}, nak(), sum()} {
			p := sized(n)
			p.Mac = m
			size := len(bytesOf(p))
			b, e := wire.Write(p)
			if size <= 8192 && (e != api.OK || len(b) != size) || size > 8192 && (e != api.ErrForm || len(b) > 0) {
				t.Errorf("Write of %d bytes: %d, %v", size, len(b), e)
			}
		}
	}
	// What fills up counts: 2045 bytes take 2048.
	p := sized(8192)
	for _, n := range []int{2045, 2046, 2047, 2048} {
		p.Exts[0].Value = text(n)
		if b, e := wire.Write(p); e != api.OK || len(b) != 8192 {
			t.Errorf("Write with a Value of %d bytes: %d, %v", n, len(b), e)
		}
	}
}

func TestWriteExamples(t *testing.T) {
	want := append([]byte{35}, make([]byte, 47)...)
	if b, e := wire.Write(small()); e != api.OK || !bytes.Equal(b, want) {
		t.Errorf("Write = %v, %v", b, e)
	}
	b, e := wire.Write(withExts(api.Ext{Op: 1}))
	if want := slices.Concat(want, []byte{1, 0, 0, 24}, make([]byte, 20)); e != api.OK || len(b) != 72 || !bytes.Equal(b, want) {
		t.Errorf("Write = %v, %v", b, e)
	}
	full := api.Packet{
		Leap: 2, Version: 4, Mode: 4, Stratum: 1, Poll: 6, Prec: -20, Delay: 0x01020304, Disp: 0x05060708, RefID: 0x47505300,
		Ref: 0x1112131415161718, Org: 0x2122232425262728, Rec: 0x3132333435363738, Xmt: 0x4142434445464748,
		Exts: []api.Ext{
			{Op: 8, Resp: true, Assoc: 0x5152, TS: 0x61626364, FS: 0x65666768, Value: []byte{0x71, 0x72, 0x73, 0x74, 0x75}, Sig: []byte{0x81}},
			{Op: 63, Bad: true, Assoc: 65535, Value: []byte{0, 0, 0}, Sig: []byte{0x91, 0x92, 0x93, 0x94}},
		},
		Mac: api.Mac{Has: true, Key: 0xa1a2a3a4, Sum: []byte{1, 2, 3, 4, 5, 6, 7, 8, 9, 10, 11, 12, 13, 14, 15, 16}},
	}
	want = []byte{
		164, 1, 6, 236, 1, 2, 3, 4, 5, 6, 7, 8, 0x47, 0x50, 0x53, 0,
		0x11, 0x12, 0x13, 0x14, 0x15, 0x16, 0x17, 0x18, 0x21, 0x22, 0x23, 0x24, 0x25, 0x26, 0x27, 0x28,
		0x31, 0x32, 0x33, 0x34, 0x35, 0x36, 0x37, 0x38, 0x41, 0x42, 0x43, 0x44, 0x45, 0x46, 0x47, 0x48,
		136, 0, 0, 36, 0x51, 0x52, 0, 0, 0x61, 0x62, 0x63, 0x64, 0x65, 0x66, 0x67, 0x68, 0, 0, 0, 5, 0x71, 0x72, 0x73, 0x74, 0x75, 0, 0, 0, 0, 0, 0, 1, 0x81, 0, 0, 0,
		127, 0, 0, 32, 255, 255, 0, 0, 0, 0, 0, 0, 0, 0, 0, 0, 0, 0, 0, 3, 0, 0, 0, 0, 0, 0, 0, 4, 0x91, 0x92, 0x93, 0x94,
		0xa1, 0xa2, 0xa3, 0xa4, 1, 2, 3, 4, 5, 6, 7, 8, 9, 10, 11, 12, 13, 14, 15, 16,
	}
	if b, e := wire.Write(full); e != api.OK || !bytes.Equal(b, want) {
		t.Errorf("Write = %v, %v, want %v", b, e, want)
	}
	if p, fault := wire.Read(want); fault != (api.Fault{}) || !same(p, full) {
		t.Errorf("Read = %v, %v, want %v", p, fault, full)
	}
}

// P10.3: Front, Nak, Kiss.

func TestFront(t *testing.T) {
	for _, p := range rights() {
		ahead := p
		ahead.Mac = api.Mac{}
		if b, e := wire.Front(bytesOf(p)); e != api.OK || !bytes.Equal(b, bytesOf(ahead)) {
			t.Fatalf("Front of %v = %x, %v", p, b, e)
		}
	}
	for _, c := range faults() {
		if b, e := wire.Front(c.b); e != c.want.Code || len(b) > 0 {
			t.Errorf("Front(%v) = %x, %v, want %v", c.b, b, e, c.want.Code)
		}
	}
}

func TestNak(t *testing.T) {
	for _, c := range []struct {
		m    api.Mac
		want bool
	}{
		{api.Mac{}, false}, {nak(), true}, {sum(), false}, {api.Mac{Has: true}, true}, {api.Mac{Has: true, Sum: []byte{}}, true}, {api.Mac{Key: 7}, false}, {api.Mac{Sum: text(16)}, false},
		{api.Mac{Has: true, Sum: []byte{0}}, false}, {api.Mac{Has: true, Sum: make([]byte, 16)}, false}, {api.Mac{Has: true, Sum: text(16)[:0]}, true}, {api.Mac{Sum: []byte{}}, false},
	} {
		for _, p := range []api.Packet{small(), {}, withExts(api.Ext{Op: 1, Bad: true})} {
			p.Mac = c.m
			if got := wire.Nak(p); got != c.want {
				t.Errorf("Nak of %v = %v", c.m, got)
			}
		}
	}
}

func TestKiss(t *testing.T) {
	for _, c := range []struct {
		stratum int
		id      uint32
		want    string
	}{
		{0, 0x52415445, "RATE"}, {0, 0, "\x00\x00\x00\x00"}, {0, 0x44454e59, "DENY"}, {0, 0xff80c3a9, "\xff\x80\xc3\xa9"}, {0, 1, "\x00\x00\x00\x01"}, {0, math.MaxUint32, "\xff\xff\xff\xff"},
		{0, 0x01000000, "\x01\x00\x00\x00"}, {1, 0x52415445, ""}, {16, 0x52415445, ""}, {15, 0, ""}, {-1, 0x52415445, ""}, {256, 0x52415445, ""}, {1 << 32, 0x52415445, ""}, {math.MinInt, 1, ""},
	} {
		for _, p := range []api.Packet{small(), {}, {Mac: nak()}} {
			p.Stratum, p.RefID = c.stratum, c.id
			if got := wire.Kiss(p); got != c.want {
				t.Errorf("Kiss of %d, %x = %q, want %q", c.stratum, c.id, got, c.want)
			}
		}
	}
}
