package der_test

import (
	"bytes"
	"math/rand"
	"slices"
	"testing"

	"clepsydra/api"
	"clepsydra/der"
)

// P7.2: Read.

// readAs fails, if Read does not answer word by word.
func readAs(t *testing.T, b []byte) api.Fault {
	t.Helper()
	n, fault := der.Read(b)
	want, wrong := read(b)
	if fault != wrong || !same(n, want) {
		t.Fatalf("Read(%v) = %v, %v, want %v, %v", b, n, fault, want, wrong)
	}
	return fault
}

// nest is bytes within as many of a tag as are said, the lengths of all below 128.
func nest(tag byte, levels int, b ...byte) []byte {
	for range levels {
		b = slices.Concat([]byte{tag, byte(len(b))}, b)
	}
	return b
}

func TestReadFaults(t *testing.T) {
	for _, c := range []struct {
		b    []byte
		at   int
		code api.Errno
	}{
		// No byte for a tag, or for a length.
		{nil, 0, api.ErrShort}, {[]byte{5}, 1, api.ErrShort}, {[]byte{48}, 1, api.ErrShort}, {[]byte{48, 1, 5}, 3, api.ErrShort},
		{[]byte{2, 129}, 2, api.ErrShort}, {[]byte{2, 130, 1}, 3, api.ErrShort}, {[]byte{2, 132, 1, 0, 0}, 5, api.ErrShort}, {[]byte{48, 3, 4, 130, 1}, 5, api.ErrShort},
		// No bytes behind them.
		{[]byte{2, 1}, 2, api.ErrShort}, {[]byte{4, 3, 1, 2}, 4, api.ErrShort}, {[]byte{48, 1}, 2, api.ErrShort}, {[]byte{48, 2, 5}, 3, api.ErrShort},
		{[]byte{4, 132, 255, 255, 255, 255}, 6, api.ErrShort}, {[]byte{4, 132, 128, 0, 0, 0, 9}, 7, api.ErrShort}, {[]byte{48, 4, 4, 3, 1, 2}, 6, api.ErrShort},
		{[]byte{48, 2, 4, 9}, 4, api.ErrShort}, {[]byte{48, 4, 48, 2, 4, 9}, 6, api.ErrShort},
		// What goes beyond the end is met ahead of what stands in it.
		{[]byte{48, 5, 6, 0}, 4, api.ErrShort}, {[]byte{5, 1}, 2, api.ErrShort}, {[]byte{1, 2, 9}, 3, api.ErrShort}, {[]byte{49, 9, 5, 0, 4, 0}, 6, api.ErrShort},
		// No tag.
		{[]byte{0}, 0, api.ErrTag}, {[]byte{6, 0}, 0, api.ErrTag}, {[]byte{255, 255}, 0, api.ErrTag}, {[]byte{16, 0}, 0, api.ErrTag}, {[]byte{17, 0}, 0, api.ErrTag},
		{[]byte{48, 2, 19, 0}, 2, api.ErrTag}, {[]byte{48, 4, 5, 0, 7, 0}, 4, api.ErrTag}, {[]byte{48, 1, 0}, 2, api.ErrTag}, {[]byte{48, 1, 6, 5, 0}, 2, api.ErrTag},
		{[]byte{6, 128}, 0, api.ErrTag}, {[]byte{13}, 0, api.ErrTag}, {[]byte{50, 0}, 0, api.ErrTag}, {[]byte{47, 0}, 0, api.ErrTag},
		// A length that is not written so.
		{[]byte{4, 128}, 1, api.ErrSize}, {[]byte{48, 128, 0, 0}, 1, api.ErrSize}, {[]byte{4, 133}, 1, api.ErrSize}, {[]byte{4, 133, 0, 0, 0, 0, 1, 9}, 1, api.ErrSize},
		{[]byte{4, 255}, 1, api.ErrSize}, {[]byte{4, 129, 0}, 1, api.ErrSize}, {[]byte{4, 129, 1, 9}, 1, api.ErrSize}, {[]byte{4, 129, 127}, 1, api.ErrSize},
		{[]byte{4, 130, 0}, 1, api.ErrSize}, {[]byte{4, 130, 0, 200}, 1, api.ErrSize}, {[]byte{4, 131, 0}, 1, api.ErrSize}, {[]byte{4, 132, 0}, 1, api.ErrSize},
		{[]byte{4, 129, 128}, 3, api.ErrShort}, {[]byte{4, 130, 1, 0}, 4, api.ErrShort}, {[]byte{4, 130, 1}, 3, api.ErrShort},
		{[]byte{48, 4, 5, 0, 4, 128}, 5, api.ErrSize}, {[]byte{48, 3, 4, 129, 5}, 3, api.ErrSize},
		// A length that goes beyond what is around it, and not beyond all.
		{[]byte{48, 2, 4, 1, 9}, 3, api.ErrSize}, {[]byte{48, 3, 4, 2, 9, 9, 9}, 3, api.ErrSize}, {[]byte{48, 4, 48, 2, 4, 1, 9}, 5, api.ErrSize},
		{[]byte{48, 5, 48, 2, 4, 1, 9}, 5, api.ErrSize}, {[]byte{48, 2, 5, 9, 0}, 3, api.ErrSize}, {[]byte{48, 2, 4, 9, 0}, 3, api.ErrSize},
		{[]byte{48, 6, 48, 2, 4, 9, 5, 0}, 5, api.ErrSize}, {[]byte{48, 6, 48, 4, 4, 3, 5, 0}, 8, api.ErrShort},
		// A length that itself stands beyond it.
		{[]byte{48, 1, 5, 0}, 3, api.ErrSize}, {[]byte{48, 1, 5, 9, 0}, 3, api.ErrSize}, {[]byte{48, 1, 5, 128}, 3, api.ErrSize}, {[]byte{48, 2, 4, 129, 200}, 3, api.ErrSize},
		{[]byte{48, 3, 4, 130, 1, 0, 0}, 3, api.ErrSize}, {[]byte{48, 2, 4, 130, 1}, 5, api.ErrShort},
		// Bytes that may not be so, and kids that do not rise.
		{[]byte{1, 0}, 0, api.ErrValue}, {[]byte{1, 1, 1}, 0, api.ErrValue}, {[]byte{2, 0}, 0, api.ErrValue}, {[]byte{2, 2, 0, 1}, 0, api.ErrValue},
		{[]byte{2, 2, 255, 128}, 0, api.ErrValue}, {[]byte{3, 0}, 0, api.ErrValue}, {[]byte{3, 1, 1}, 0, api.ErrValue}, {[]byte{3, 2, 1, 1}, 0, api.ErrValue},
		{[]byte{3, 2, 8, 0}, 0, api.ErrValue}, {[]byte{5, 1, 0}, 0, api.ErrValue}, {[]byte{12, 1, 31}, 0, api.ErrValue}, {[]byte{12, 2, 97, 127}, 0, api.ErrValue},
		{[]byte{49, 4, 5, 0, 4, 0}, 0, api.ErrValue}, {[]byte{49, 6, 4, 2, 0, 0, 4, 0}, 0, api.ErrValue}, {[]byte{48, 5, 5, 0, 1, 1, 9}, 4, api.ErrValue},
		{[]byte{48, 8, 5, 0, 49, 4, 5, 0, 4, 0}, 4, api.ErrValue}, {[]byte{48, 8, 49, 4, 5, 0, 4, 0, 6, 0}, 2, api.ErrValue},
		// A kid's fault ahead of that of the TagSet, wherever it stands; what stands behind it is not met.
		{[]byte{49, 6, 5, 0, 4, 0, 6, 0}, 6, api.ErrTag}, {[]byte{49, 5, 5, 0, 1, 1, 7}, 4, api.ErrValue}, {[]byte{49, 4, 5, 0, 4, 0, 0}, 0, api.ErrValue},
		{[]byte{1, 1, 9, 0}, 0, api.ErrValue}, {[]byte{48, 6, 1, 1, 9, 6, 0, 0}, 2, api.ErrValue}, {[]byte{49, 4, 5, 3, 4, 0}, 6, api.ErrShort}, {[]byte{49, 4, 5, 1, 4, 0}, 2, api.ErrValue},
		// Bytes behind the value.
		{[]byte{5, 0, 0}, 2, api.ErrRest}, {[]byte{5, 0, 5, 0}, 2, api.ErrRest}, {[]byte{48, 0, 255, 255}, 2, api.ErrRest}, {[]byte{48, 2, 5, 0, 6}, 4, api.ErrRest},
	} {
		n, fault := der.Read(c.b)
		if fault != (api.Fault{At: c.at, Code: c.code}) || !same(n, api.Node{}) {
			t.Errorf("Read(%v) = %v, %v, want %v at %d", c.b, n, fault, c.code, c.at)
		}
	}
}

func TestReadLevels(t *testing.T) {
	for _, tag := range []byte{48, 49} {
		for _, c := range []struct {
			b    []byte
			at   int
			code api.Errno
		}{
			{nest(tag, 16), 0, api.OK}, {nest(tag, 15, 5, 0), 0, api.OK}, {nest(tag, 17), 32, api.ErrDeep}, {nest(tag, 16, 5, 0), 32, api.ErrDeep},
			{nest(tag, 30, 5, 0), 32, api.ErrDeep}, {nest(tag, 16, 4, 0, 4, 0), 32, api.ErrDeep}, {nest(tag, 15, 4, 0, tag, 0), 0, api.OK},
			{nest(tag, 15, 4, 0, tag, 2, 4, 0), 34, api.ErrDeep},
			// The tag is asked first, the length and the bytes behind it.
			{nest(tag, 16, 6, 0), 32, api.ErrTag}, {nest(tag, 16, 4, 128), 32, api.ErrDeep}, {nest(tag, 16, 1, 0), 32, api.ErrDeep},
			{nest(tag, 16, 5), 32, api.ErrDeep}, {nest(tag, 16, 5, 7), 32, api.ErrDeep}, {nest(tag, 15, 5, 7), 34 - 2, api.ErrShort},
		} {
			if _, fault := der.Read(c.b); fault != (api.Fault{At: c.at, Code: c.code}) {
				t.Errorf("Read(%v): %v, want %v at %d", c.b, fault, c.code, c.at)
			}
			readAs(t, c.b)
		}
	}
}

func TestReadValues(t *testing.T) {
	ahead := []byte{48, 130, 0, 0}
	// counted is a TagSeq of as many TagNulls as are said, and of others.
	counted := func(count int, more ...byte) []byte {
		b := slices.Concat(ahead, bytes.Repeat([]byte{5, 0}, count), more)
		b[2], b[3] = byte((len(b)-4)>>8), byte(len(b)-4)
		return b
	}
	for _, c := range []struct {
		b    []byte
		at   int
		code api.Errno
	}{
		{counted(4094), 0, api.OK}, {counted(4095), 0, api.OK}, {counted(4096), 4 + 2*4095, api.ErrLong}, {counted(9000), 4 + 2*4095, api.ErrLong},
		{counted(4093, 48, 2, 5, 0), 0, api.OK}, {counted(4093, 48, 4, 5, 0, 5, 0), 4 + 2*4093 + 4, api.ErrLong}, {counted(4094, 48, 2, 5, 0), 4 + 2*4094 + 2, api.ErrLong},
		// The tag is asked first, the length and the bytes behind it.
		{counted(4095, 6, 0), 4 + 2*4095, api.ErrTag}, {counted(4095, 5, 128), 4 + 2*4095, api.ErrLong}, {counted(4095, 1, 0), 4 + 2*4095, api.ErrLong},
		{counted(4095, 5), 4 + 2*4095, api.ErrLong}, {counted(4094, 5), 4 + 2*4094 + 1, api.ErrShort}, {counted(4094, 5, 128), 4 + 2*4094 + 1, api.ErrSize},
		// So is what is too deep.
		{counted(4080, nest(48, 15, 5, 0)...), 4 + 2*4080 + 30, api.ErrDeep}, {counted(4081, nest(48, 14, 5, 0)...), 4 + 2*4081 + 28, api.ErrLong},
		{counted(4080, nest(48, 14, 5, 0)...), 0, api.OK},
	} {
		if _, fault := der.Read(c.b); fault != (api.Fault{At: c.at, Code: c.code}) {
			t.Errorf("Read of %d bytes: %v, want %v at %d", len(c.b), fault, c.code, c.at)
		}
		readAs(t, c.b)
	}
}

func TestReadLengths(t *testing.T) {
	for _, c := range []struct {
		b    []byte
		at   int
		code api.Errno
	}{
		{append([]byte{4, 130, 255, 251}, make([]byte, 65531)...), 0, api.OK}, {append([]byte{4, 130, 255, 251}, make([]byte, 65530)...), 65534, api.ErrShort},
		{append([]byte{4, 130, 255, 250}, make([]byte, 65531)...), 65534, api.ErrRest}, {append([]byte{4, 130, 255, 252}, make([]byte, 65532)...), 0, api.ErrLong},
		{make([]byte, 65536), 0, api.ErrLong}, {make([]byte, 65535), 0, api.ErrTag}, {make([]byte, 1<<20), 0, api.ErrLong},
		{append([]byte{4, 127}, make([]byte, 127)...), 0, api.OK}, {append([]byte{4, 129, 127}, make([]byte, 127)...), 1, api.ErrSize},
		{append([]byte{4, 129, 128}, make([]byte, 128)...), 0, api.OK}, {append([]byte{4, 129, 255}, make([]byte, 255)...), 0, api.OK},
		{append([]byte{4, 130, 1, 0}, make([]byte, 256)...), 0, api.OK}, {append([]byte{4, 130, 0, 255}, make([]byte, 255)...), 1, api.ErrSize},
		{append([]byte{4, 131, 1, 0, 0}, make([]byte, 9)...), 14, api.ErrShort}, {append([]byte{4, 131, 0, 1, 0}, make([]byte, 256)...), 1, api.ErrSize},
	} {
		if _, fault := der.Read(c.b); fault != (api.Fault{At: c.at, Code: c.code}) {
			t.Errorf("Read of %d bytes: %v, want %v at %d", len(c.b), fault, c.code, c.at)
		}
		readAs(t, c.b)
	}
}

func TestReadExamples(t *testing.T) {
	n, fault := der.Read([]byte{48, 5, 5, 0, 1, 1, 255})
	if want := seq(leaf(api.TagNull), leaf(api.TagBool, 255)); fault != (api.Fault{}) || !same(n, want) {
		t.Errorf("Read = %v, %v, want %v", n, fault, want)
	}
	n, fault = der.Read([]byte{2, 2, 0, 128})
	if want := leaf(api.TagInt, 0, 128); fault != (api.Fault{}) || !same(n, want) {
		t.Errorf("Read = %v, %v, want %v", n, fault, want)
	}
	n, fault = der.Read([]byte{49, 9, 4, 0, 4, 1, 255, 4, 2, 0, 0})
	if want := set(leaf(4), leaf(4, 255), leaf(4, 0, 0)); fault != (api.Fault{}) || !same(n, want) {
		t.Errorf("Read = %v, %v, want %v", n, fault, want)
	}
}

// All bytes of a few, up to some length.
func TestReadAll(t *testing.T) {
	for _, c := range []struct {
		few  []byte
		most int
	}{
		{[]byte{0, 1, 2, 4, 5, 48, 49, 129}, 5}, {[]byte{0, 1, 2, 3, 12, 48, 127, 128, 130, 133, 255}, 4}, {[]byte{0, 2, 4, 48}, 8}, {[]byte{1, 4, 5, 49}, 8},
		{[]byte{0, 1, 48, 130, 131, 132}, 6},
	} {
		codes := map[api.Errno]int{}
		for length := range c.most + 1 {
			each(c.few, make([]byte, length), 0, func(b []byte) { codes[readAs(t, b).Code]++ })
		}
		if codes[api.OK] < 2 || codes[api.ErrShort] < 2 || codes[api.ErrSize] < 2 {
			t.Errorf("of %v too few are met: %v", c.few, codes)
		}
	}
}

// each does something with all bytes of a few that stand from a place on.
func each(few, b []byte, at int, do func(b []byte)) {
	if at == len(b) {
		do(b)
		return
	}
	for _, c := range few {
		b[at] = c
		each(few, b, at+1, do)
	}
}

func TestReadByChance(t *testing.T) {
	r := rand.New(rand.NewSource(73))
	codes := map[api.Errno]int{}
	for range 20000 {
		n := anyRight(r, 7)
		b := bytesOf(n)
		if readAs(t, b).Code != api.OK {
			t.Fatalf("%v is not read", n)
		}
		codes[readAs(t, bytesOf(spoiled(r, n))).Code]++
		for range 1 + r.Intn(3) {
			b = changed(r, b)
		}
		codes[readAs(t, b).Code]++
	}
	for _, e := range []api.Errno{api.OK, api.ErrShort, api.ErrTag, api.ErrSize, api.ErrValue, api.ErrRest} {
		if codes[e] < 200 {
			t.Errorf("%v is met %d times", e, codes[e])
		}
	}
}

// changed are bytes of which one is another, lacks, or is put in, by chance.
func changed(r *rand.Rand, b []byte) []byte {
	at, c := r.Intn(len(b)+1), byte(r.Intn(256))
	if r.Intn(2) == 0 {
		c = []byte{0, 1, 5, 48, 49, 128, 129, 130}[r.Intn(8)]
	}
	switch {
	case at == len(b) || r.Intn(3) == 0:
		return slices.Insert(slices.Clone(b), at, c)
	case r.Intn(2) == 0:
		return slices.Delete(slices.Clone(b), at, at+1)
	}
	out := slices.Clone(b)
	out[at] = c
	return out
}
