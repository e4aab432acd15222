package wire_test

import (
	"bytes"
	"math/rand"
	"slices"
	"testing"

	"clepsydra/api"
	"clepsydra/wire"
)

// P10.4: what is written is read as it was; what is read is right, and is written as it stood.
func TestWrittenAndRead(t *testing.T) {
	for _, p := range rights() {
		b, e := wire.Write(p)
		got, fault := wire.Read(b)
		if e != api.OK || fault != (api.Fault{}) || !same(got, p) {
			t.Fatalf("Read(Write(%v)) = %v, %v, %v", p, got, e, fault)
		}
		again, e := wire.Write(got)
		if e != api.OK || !bytes.Equal(again, b) {
			t.Fatalf("Write(Read(%x)) = %x, %v", b, again, e)
		}
	}
}

func TestReadAndWritten(t *testing.T) {
	r := rand.New(rand.NewSource(105))
	read := 0
	for range 20000 {
		b := changed(r, bytesOf(anyPacket(r)))
		p, fault := wire.Read(b)
		if fault.Code != api.OK {
			continue
		}
		read++
		if e := wire.Right(p); e != api.OK {
			t.Fatalf("%v, which was read, is not right: %v", p, e)
		}
		if again, e := wire.Write(p); e != api.OK || !bytes.Equal(again, b) {
			t.Fatalf("Write(Read(%x)) = %x, %v", b, again, e)
		}
	}
	if read < 2000 {
		t.Errorf("only %d are read", read)
	}
}

// P10.5: a packet's front does not hang on its Mac's Sum.
func TestFrontWithoutSum(t *testing.T) {
	for _, p := range rights() {
		if len(p.Mac.Sum) == 0 {
			continue
		}
		b, _ := wire.Write(p)
		want, e := wire.Front(b)
		if e != api.OK || !bytes.Equal(want, b[:len(b)-20]) {
			t.Fatalf("Front = %x, %v", want, e)
		}
		for at := range 16 {
			p.Mac.Sum = slices.Clone(p.Mac.Sum)
			p.Mac.Sum[at] ^= byte(1 << (at % 8))
			b, _ := wire.Write(p)
			if front, e := wire.Front(b); e != api.OK || !bytes.Equal(front, want) {
				t.Fatalf("with another Sum: %x, %v, want %x", front, e, want)
			}
		}
		// Nor on whether there is one.
		p.Mac.Sum = nil
		b, _ = wire.Write(p)
		if front, e := wire.Front(b); e != api.OK || !bytes.Equal(front, want) {
			t.Fatalf("without a Sum: %x, %v, want %x", front, e, want)
		}
	}
}

// P10.6: a packet that is cut, or has a byte more, is none, or another one.
func TestCutOrLonger(t *testing.T) {
	cuts := 0
	for _, p := range rights() {
		b := bytesOf(p)
		// Of long ones not every cut is tried, for the time that it takes.
		for n := 0; n < len(b); n += 1 + len(b)/500 {
			if got, fault := wire.Read(b[:n]); fault.Code == api.OK {
				cuts++
				if same(got, p) {
					t.Fatalf("%v, cut to %d bytes, is the same one", p, n)
				}
			}
		}
		for _, c := range []byte{0, 1, 255} {
			got, fault := wire.Read(append(slices.Clone(b), c))
			if fault.Code == api.OK && same(got, p) {
				t.Fatalf("%v with a byte %d more is the same one", p, c)
			}
		}
	}
	if cuts < 100 {
		t.Errorf("only %d that are cut are read", cuts)
	}
}

// Rules 4 and 5: what is handed in is not changed, what lies behind it plays no part; what is handed out is new memory.
func TestMemoryOfPackets(t *testing.T) {
	for _, plain := range slices.Concat(rights(), wrongs()) {
		p, pKept := keptPacket(plain)
		want, code := wire.Write(plain)
		b, e := wire.Write(p)
		if e != code || !bytes.Equal(b, want) {
			t.Fatalf("Write hangs on what lies behind a packet: %v", e)
		}
		fill(b)
		if wire.Right(p) != wire.Right(plain) || wire.Nak(p) != wire.Nak(plain) || wire.Kiss(p) != wire.Kiss(plain) {
			t.Fatal("a call hangs on what lies behind a packet")
		}
		if !pKept() {
			t.Fatal("Write changed a packet, or shares its memory")
		}
		if again, _ := wire.Write(plain); !bytes.Equal(again, want) {
			t.Fatal("two answers share memory")
		}
	}
}

func TestMemoryOfBytes(t *testing.T) {
	for _, want := range rights() {
		b, bKept := kept(bytesOf(want))
		front, e := wire.Front(b)
		if e != api.OK {
			t.Fatalf("Front: %v", e)
		}
		fill(front)
		p, fault := wire.Read(b)
		if fault != (api.Fault{}) || !same(p, want) {
			t.Fatalf("Read hangs on what lies behind its bytes: %v", fault)
		}
		fill(p.Mac.Sum)
		p.Mac.Sum = want.Mac.Sum
		for i, x := range p.Exts {
			if !sameExt(x, want.Exts[i]) {
				t.Fatal("two lists share memory")
			}
			fill(x.Value)
			if !bytes.Equal(x.Sig, want.Exts[i].Sig) {
				t.Fatal("Value and Sig share memory")
			}
			fill(x.Sig)
		}
		if !bKept() {
			t.Fatal("Read or Front changed their bytes, or share them")
		}
	}
	for _, c := range faults() {
		b, bKept := kept(c.b)
		if _, fault := wire.Read(b); fault != c.want || !bKept() {
			t.Fatalf("Read hangs on what lies behind its bytes, or changed them: %v, want %v", fault, c.want)
		}
	}
}

// P1: no call panics, and each ends, at all bytes.
func TestAnyBytes(t *testing.T) {
	r := rand.New(rand.NewSource(107))
	head := bytesOf(small())
	for range 20000 {
		b := make([]byte, r.Intn(300))
		r.Read(b)
		readAs(t, b)
		readAs(t, slices.Concat(head, b))
		if len(b) > 24 {
			b[0], b[1], b[2], b[3], b[6], b[7], b[16], b[17], b[18], b[19] = 5, 0, 0, byte(len(b)/4*4), 0, 0, 0, 0, 0, b[19]%50
			readAs(t, slices.Concat(head, b))
		}
	}
	for _, b := range [][]byte{nil, {}, bytes.Repeat([]byte{255}, 8192), bytes.Repeat([]byte{36}, 8192), make([]byte, 8192), bytes.Repeat([]byte{4}, 8192)} {
		readAs(t, b)
		readAs(t, slices.Concat(head, b))
		readAs(t, slices.Concat(head, b)[:min(8192, 48+len(b))])
	}
}
