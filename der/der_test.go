package der_test

import (
	"bytes"
	"math/rand"
	"slices"
	"testing"

	"clepsydra/api"
	"clepsydra/der"
)

// P7.1: Right, Write.

// rightAs fails, if Right or Write do not answer as is wanted.
func rightAs(t *testing.T, n api.Node, want bool) {
	t.Helper()
	if got := der.Right(n); got != want {
		t.Fatalf("Right(%v) = %v", n, got)
	}
	b, e := der.Write(n)
	switch {
	case !want:
		wantErr(t, "Write", len(b) == 0, e, api.ErrForm)
	case e != api.OK || !bytes.Equal(b, bytesOf(n)):
		t.Fatalf("Write(%v) = %x, %v, want %x", n, b, e, bytesOf(n))
	}
}

func TestRightBytes(t *testing.T) {
	null := leaf(api.TagNull)
	for _, c := range []struct {
		tag          int
		right, wrong []string
	}{
		{api.TagBool, []string{"\x00", "\xff"}, []string{"", "\x01", "\xfe", "\x80", "\x00\x00", "\xff\xff", "\xff\x00"}},
		{api.TagInt,
			[]string{"\x00", "\x01", "\x7f", "\x80", "\xff", "\x00\x80", "\x00\xff", "\xff\x7f", "\xff\x00", "\x01\x00", "\x80\x00", "\x7f\xff", "\xfe\xff", "\x00\x80\x00", "\xff\x7f\xff"},
			[]string{"", "\x00\x00", "\x00\x7f", "\x00\x01", "\xff\x80", "\xff\xff", "\x00\x00\x80", "\xff\xff\x7f", "\x00\x7f\xff", "\xff\x80\x00"}},
		{api.TagBits,
			[]string{"\x00", "\x00\x00", "\x00\xff", "\x01\xfe", "\x01\x00", "\x07\x80", "\x07\x00", "\x04\xf0", "\x04\xff\xf0", "\x07\xff\x80", "\x00\xff\xff", "\x03\x08\x08"},
			[]string{"", "\x01", "\x07", "\x08", "\x08\x00", "\xff", "\xff\x00", "\x01\x01", "\x01\xff", "\x07\x40", "\x07\x81", "\x04\xf8", "\x04\xf0\xff", "\x03\x08\x04", "\x80\x00"}},
		{api.TagOctets, []string{"", "\x00", "\xff", "abc", "\x00\x00"}, nil},
		{api.TagNull, []string{""}, []string{"\x00", "\x05", "\x00\x00"}},
		{api.TagText, []string{"", " ", "~", "abc", " ~ "}, []string{"\x1f", "\x7f", "\x00", "\xff", "a\x1f", "\x7fa", "a\x80b", "\n", "é"}},
		{api.TagSeq, []string{""}, []string{"\x00", "\x05\x00"}},
		{api.TagSet, []string{""}, []string{"\x00", "\x05\x00"}},
	} {
		for _, b := range c.right {
			rightAs(t, leaf(c.tag, []byte(b)...), true)
			rightAs(t, seq(leaf(c.tag, []byte(b)...)), true)
			if c.tag != api.TagSeq && c.tag != api.TagSet {
				rightAs(t, api.Node{Tag: c.tag, Bytes: []byte(b), Kids: []api.Node{null}}, false)
			}
		}
		for _, b := range c.wrong {
			rightAs(t, leaf(c.tag, []byte(b)...), false)
			rightAs(t, seq(null, leaf(c.tag, []byte(b)...), null), false)
			rightAs(t, api.Node{Tag: c.tag, Bytes: []byte(b), Kids: []api.Node{null}}, false)
		}
	}
}

func TestRightTags(t *testing.T) {
	tags := []int{1, 2, 3, 4, 5, 12, 48, 49}
	for tag := -300; tag < 600; tag++ {
		for _, b := range [][]byte{nil, {0}} {
			n := api.Node{Tag: tag, Bytes: b}
			rightAs(t, n, slices.Contains(tags, tag) && isRight(n))
		}
		rightAs(t, api.Node{Tag: tag, Kids: []api.Node{octets(1)}}, tag == 48 || tag == 49)
	}
	for _, tag := range []int{1 << 40, 1<<40 + 48, -1 << 63, 1<<63 - 1, 48 - 256} {
		rightAs(t, api.Node{Tag: tag}, false)
		rightAs(t, set(api.Node{Tag: tag}), false)
	}
}

func TestRightLevels(t *testing.T) {
	for _, tag := range []int{api.TagSeq, api.TagSet} {
		for _, n := range []api.Node{leaf(api.TagNull), seq(), set()} {
			rightAs(t, within(tag, 14, n), true)
			rightAs(t, within(tag, 15, n), true)
			rightAs(t, within(tag, 16, n), false)
			rightAs(t, within(tag, 17, n), false)
			rightAs(t, seq(leaf(api.TagNull), within(tag, 14, n)), true)
			rightAs(t, seq(leaf(api.TagNull), within(tag, 15, n)), false)
			rightAs(t, seq(within(tag, 15, n), leaf(api.TagNull)), false)
		}
	}
	rightAs(t, within(api.TagSeq, 65535, leaf(api.TagNull)), false)
}

func TestRightValues(t *testing.T) {
	rightAs(t, many(api.MaxNodes-2), true)
	rightAs(t, many(api.MaxNodes-1), true)
	rightAs(t, many(api.MaxNodes), false)
	rightAs(t, many(3*api.MaxNodes), false)
	rightAs(t, seq(many(2000), many(2000), many(92)), true)
	rightAs(t, seq(many(2000), many(2000), many(93)), false)
	rightAs(t, seq(many(2000), many(2000), many(92), leaf(api.TagNull)), false)
	rightAs(t, seq(leaf(api.TagNull), many(2000), many(2000), many(91)), true)
	// Both too many, and one of them wrong.
	rightAs(t, seq(leaf(6), many(4095)), false)
	rightAs(t, seq(many(4093), leaf(6)), false)
}

func TestRightSets(t *testing.T) {
	one, two := leaf(api.TagOctets, 255), leaf(api.TagOctets, 0, 0)
	for _, c := range []struct {
		n    api.Node
		want bool
	}{
		{set(), true}, {set(one), true}, {set(one, one), true}, {set(one, one, two, two), true},
		// The shorter one first, whatever its bytes are; then the lesser bytes.
		{set(one, two), true}, {set(two, one), false}, {set(leaf(4, 1), leaf(4, 2)), true}, {set(leaf(4, 2), leaf(4, 1)), false},
		{set(leaf(4, 1, 127), leaf(4, 1, 128)), true}, {set(leaf(4, 1, 128), leaf(4, 1, 127)), false}, {set(leaf(4, 1, 128), leaf(4, 2, 127)), true},
		// The tag ahead of all.
		{set(two, leaf(5), leaf(12)), true}, {set(leaf(5), two), false}, {set(seq(), set()), true}, {set(set(), seq()), false}, {set(leaf(12, 'a'), seq()), true},
		{set(octets(9), octets(0)), false}, {set(leaf(4), leaf(5), seq(), leaf(12)), false}, {set(leaf(5), leaf(4), seq()), false},
		// Lengths of one byte and of more.
		{set(octets(127), octets(128)), true}, {set(octets(128), octets(127)), false}, {set(octets(255), octets(256)), true}, {set(octets(256), octets(255)), false},
		{set(octets(511), octets(512)), true}, {set(octets(512), octets(511)), false}, {set(leaf(4, bytes.Repeat([]byte{255}, 200)...), octets(300)), true},
		// Kids: those that lie ahead decide, if all takes as many bytes.
		{set(seq(one, two), seq(two, one)), true}, {set(seq(two, one), seq(one, two)), false}, {set(seq(one, leaf(5)), seq(one, seq())), true},
		{set(seq(one, seq()), seq(one, leaf(5))), false}, {set(seq(leaf(5), leaf(5)), seq(seq(seq()))), true}, {set(seq(seq(seq())), seq(leaf(5), leaf(5))), false},
		{set(seq(octets(4)), seq(octets(2), octets(0))), false}, {set(seq(octets(2), octets(0)), seq(octets(4))), true}, {set(seq(leaf(5)), seq()), false},
		{set(seq(one, one), seq(one)), false}, {set(seq(one), seq(one, one)), true}, {set(set(one), set(one)), true}, {set(set(one), set(leaf(4, 254))), false},
		// Deeper, and in the midst.
		{seq(set(two, one)), false}, {set(set(two, one)), false}, {seq(two, one), true}, {set(seq(two, one)), true}, {set(one, two, one), false},
		{set(one, leaf(4, 0), two), false}, {set(leaf(4, 0), one, two), true},
	} {
		rightAs(t, c.n, c.want)
	}
}

// A row of kids whose bytes are many, or that stand deep, is in order as its bytes are.
func TestRightSetsByChance(t *testing.T) {
	r := rand.New(rand.NewSource(71))
	rights := 0
	for range 30000 {
		n := set(anyRight(r, 4), anyRight(r, 4))
		if r.Intn(2) == 0 {
			n = set(n.Kids[0], spoiled(r, n.Kids[0]))
		}
		want := isRight(n)
		if want {
			rights++
		}
		rightAs(t, n, want)
	}
	if rights < 5000 || rights > 25000 {
		t.Errorf("%d of 30000 are right", rights)
	}
}

func TestRightByChance(t *testing.T) {
	r := rand.New(rand.NewSource(72))
	for range 20000 {
		n := anyRight(r, 6)
		rightAs(t, n, true)
		n = spoiled(r, n)
		rightAs(t, n, isRight(n))
	}
}

// Kids that are their own kids: no right value, and an end all the same.
func TestRightRoundAndRound(t *testing.T) {
	for _, tag := range []int{api.TagSeq, api.TagSet, api.TagNull} {
		for _, width := range []int{1, 2, 16, 5000} {
			kids := make([]api.Node, width)
			for i := range kids {
				kids[i] = api.Node{Tag: tag, Kids: kids}
			}
			if der.Right(kids[0]) {
				t.Error("what leads round is right")
			}
			b, e := der.Write(kids[0])
			wantErr(t, "Write", len(b) == 0, e, api.ErrForm)
			_, e = der.IntOf(kids[0])
			wantErr(t, "IntOf", true, e, api.ErrForm)
			_, e = der.IntOf(api.Node{Tag: api.TagInt, Bytes: []byte{1}, Kids: kids})
			wantErr(t, "IntOf", true, e, api.ErrForm)
		}
	}
	// Kids that stand in many places are as many: here 3 to the 9, or to the 7.
	for levels, want := range map[int]bool{9: false, 7: true} {
		n := leaf(api.TagNull)
		for range levels {
			n = set(n, n, n)
		}
		rightAs(t, n, want)
	}
	// Many bytes, and each of them in many places.
	n := seq(octets(1<<20), leaf(api.TagText, bytes.Repeat([]byte{'a'}, 1<<20)...))
	for range 8 {
		n = set(n, n)
	}
	if !der.Right(n) {
		t.Error("many bytes are not right")
	}
	b, e := der.Write(n)
	wantErr(t, "Write", len(b) == 0, e, api.ErrLong)
}

func TestWriteLengths(t *testing.T) {
	for _, c := range []struct {
		length int
		ahead  []byte
	}{
		{0, []byte{4, 0}}, {1, []byte{4, 1}}, {127, []byte{4, 127}}, {128, []byte{4, 129, 128}}, {255, []byte{4, 129, 255}}, {256, []byte{4, 130, 1, 0}},
		{257, []byte{4, 130, 1, 1}}, {65531, []byte{4, 130, 255, 251}},
	} {
		b, e := der.Write(octets(c.length))
		if e != api.OK || !bytes.Equal(b, append(c.ahead, make([]byte, c.length)...)) {
			t.Errorf("Write of %d bytes: %v, and %x ..", c.length, e, b[:min(len(b), 5)])
		}
	}
	for _, n := range []api.Node{
		octets(65532), octets(65536), octets(1 << 24), octets(1<<24 - 1), octets(1 << 26), seq(octets(65528)), set(octets(65527), leaf(api.TagNull)),
		within(api.TagSeq, 15, octets(65490)),
	} {
		if !der.Right(n) {
			t.Error("a long value is not right")
		}
		b, e := der.Write(n)
		wantErr(t, "Write", len(b) == 0, e, api.ErrLong)
	}
	for _, n := range []api.Node{seq(octets(65527)), seq(octets(65525), leaf(api.TagNull)), set(octets(65525), leaf(api.TagNull))} {
		rightAs(t, n, true)
		if b, _ := der.Write(n); len(b) != api.MaxDer {
			t.Errorf("%d bytes, want the most that may be", len(b))
		}
	}
	// Two errors: the first one is told.
	b, e := der.Write(seq(octets(70000), leaf(6)))
	wantErr(t, "Write", len(b) == 0, e, api.ErrForm)
	// Bytes of a length that takes more of them than four are in their order, too.
	if !der.Right(set(octets(1<<16-1), octets(1<<16), octets(1<<24-1), octets(1<<24))) || der.Right(set(octets(1<<24), octets(1<<24-1))) {
		t.Error("long kids of a TagSet are not in their order")
	}
}

func TestWriteExamples(t *testing.T) {
	for _, c := range []struct {
		n    api.Node
		want []byte
	}{
		{leaf(api.TagInt, 0, 128), []byte{2, 2, 0, 128}}, {seq(leaf(api.TagNull), leaf(api.TagBool, 255)), []byte{48, 5, 5, 0, 1, 1, 255}},
		{leaf(api.TagNull), []byte{5, 0}}, {seq(), []byte{48, 0}}, {set(), []byte{49, 0}}, {leaf(api.TagText, 'a', 'b'), []byte{12, 2, 97, 98}},
		{leaf(api.TagBits, 4, 240), []byte{3, 2, 4, 240}}, {leaf(api.TagOctets, 9), []byte{4, 1, 9}}, {set(seq(), set(leaf(api.TagNull))), []byte{49, 6, 48, 0, 49, 2, 5, 0}},
	} {
		if b, e := der.Write(c.n); e != api.OK || !bytes.Equal(b, c.want) {
			t.Errorf("Write(%v) = %v, %v, want %v", c.n, b, e, c.want)
		}
	}
}
