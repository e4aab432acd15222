package sha_test

import (
	"bytes"
	"crypto/sha256"
	"testing"

	"clepsydra/api"
	"clepsydra/sha"
)

// P2.2: New, Write, Sum, Len, Reset.

// takes fails, if a Hash does not tell the digest and the length of a text.
func takes(t *testing.T, what string, h *sha.Hash, text []byte) {
	t.Helper()
	if h.Len() != len(text) {
		t.Fatalf("%s: Len = %d, want %d", what, h.Len(), len(text))
	}
	if h.Sum() != sha256.Sum256(text) {
		t.Fatalf("%s: Sum of %d bytes is wrong", what, len(text))
	}
}

func TestHashOfNothing(t *testing.T) {
	var byHand sha.Hash
	for _, h := range []*sha.Hash{sha.New(), new(sha.Hash), {}, &byHand} {
		takes(t, "fresh", h, nil)
		if e := h.Reset(); e != api.OK {
			t.Errorf("Reset: %v", e)
		}
		takes(t, "reset", h, nil)
		for _, b := range [][]byte{nil, {}} {
			if e := h.Write(b); e != api.OK {
				t.Errorf("Write: %v", e)
			}
			takes(t, "no bytes", h, nil)
		}
	}
}

func TestHashThatNoCallMade(t *testing.T) {
	for _, n := range sizes() {
		var h sha.Hash
		if e := h.Write(text(n)); e != api.OK {
			t.Fatalf("Write: %v", e)
		}
		takes(t, "made by hand", &h, text(n))
	}
}

func TestHashThatIsNil(t *testing.T) {
	var h *sha.Hash
	for _, b := range [][]byte{nil, {}, {1, 2, 3}, text(100)} {
		if e := h.Write(b); e != api.ErrNil {
			t.Errorf("Write: %v", e)
		}
	}
	if e := h.Reset(); e != api.ErrNil {
		t.Errorf("Reset: %v", e)
	}
	if h.Sum() != [32]byte{} || h.Len() != 0 {
		t.Errorf("Sum = %x, Len = %d", h.Sum(), h.Len())
	}
}

func TestHashGoesOn(t *testing.T) {
	h := sha.New()
	var all []byte
	for n := range 150 {
		piece := text(n)
		if e := h.Write(piece); e != api.OK {
			t.Fatalf("Write: %v", e)
		}
		all = append(all, piece...)
		takes(t, "going on", h, all)
	}
}

func TestReset(t *testing.T) {
	h := sha.New()
	for _, n := range sizes() {
		h.Write(text(n))
		if e := h.Reset(); e != api.OK {
			t.Fatalf("Reset: %v", e)
		}
		takes(t, "reset", h, nil)
		h.Write(text(n + 1))
		takes(t, "behind a reset", h, text(n+1))
		h.Reset()
	}
}

func TestHashesStandAlone(t *testing.T) {
	a, b := sha.New(), sha.New()
	a.Write([]byte("abc"))
	takes(t, "the other one", b, nil)
	b.Write(text(70))
	takes(t, "the first one", a, []byte("abc"))
	takes(t, "the other one", b, text(70))
	a.Reset()
	takes(t, "the other one", b, text(70))
}

// What is handed in may be written to afterwards.
func TestHashKeepsNoPiece(t *testing.T) {
	for _, n := range []int{1, 10, 63, 64, 65, 100, 127, 128, 129} {
		h := sha.New()
		var all []byte
		for range 5 {
			piece := text(n)
			all = append(all, piece...)
			h.Write(piece)
			for i := range piece {
				piece[i] = 0
			}
			takes(t, "behind a change", h, all)
		}
	}
}

// P2.4: however a text is cut into pieces, its digest is the same.
func TestPieces(t *testing.T) {
	for n := range 150 {
		b := text(n)
		want := sha.Sum(b)
		for i := range n + 1 {
			h := sha.New()
			h.Write(b[:i])
			h.Write(b[i:])
			if h.Sum() != want || h.Len() != n {
				t.Fatalf("%d bytes cut at %d: another digest", n, i)
			}
		}
	}
	b := text(1000)
	for size := 1; size <= 200; size++ {
		h := sha.New()
		for at := 0; at < len(b); at += size {
			h.Write(b[at:min(at+size, len(b))])
		}
		if h.Sum() != sha.Sum(b) || h.Len() != 1000 {
			t.Fatalf("1000 bytes in pieces of %d: another digest", size)
		}
	}
	h := sha.New()
	for _, piece := range [][]byte{b[:3], b[3:3], b[3:64], b[64:128], nil, b[128:191], b[191:999], b[999:]} {
		h.Write(piece)
	}
	takes(t, "pieces", h, b)
}

// P2.5: asking for a sum changes nothing.
func TestAskingChangesNothing(t *testing.T) {
	for _, n := range []int{0, 1, 55, 56, 63, 64, 65, 119, 120, 128} {
		asked, silent := sha.New(), sha.New()
		for range 4 {
			asked.Write(text(n))
			silent.Write(text(n))
			first := asked.Sum()
			if first != asked.Sum() || asked.Len() != silent.Len() {
				t.Fatalf("pieces of %d bytes: asking changes the answer", n)
			}
		}
		if asked.Sum() != silent.Sum() || silent.Sum() != sha256.Sum256(bytes.Repeat(text(n), 4)) {
			t.Fatalf("pieces of %d bytes: asking changes what was taken", n)
		}
	}
}
