package sha_test

import (
	"bytes"
	"crypto/sha256"
	"encoding/binary"
	"encoding/hex"
	"math"
	"strings"
	"testing"

	"clepsydra/api"
	"clepsydra/sha"
)

// text is some bytes, the same ones in each run.
func text(n int) []byte {
	b := make([]byte, n)
	x := uint32(n) + 99
	for i := range b {
		x = x*1664525 + 1013904223
		b[i] = byte(x >> 24)
	}
	return b
}

// sizes are lengths around those of blocks, and others.
func sizes() []int {
	var l []int
	for n := range 200 {
		l = append(l, n)
	}
	for _, n := range []int{256, 512, 4096, 8192, 65536} {
		l = append(l, n-9, n-8, n-1, n, n+1, n+55, n+56)
	}
	return l
}

// P2.1: Sum, Trunc, Keyed.

func TestSumOfKnownTexts(t *testing.T) {
	for _, c := range []struct{ text, want string }{
		{"", "e3b0c44298fc1c149afbf4c8996fb92427ae41e4649b934ca495991b7852b855"},
		{"abc", "ba7816bf8f01cfea414140de5dae2223b00361a396177a9cb410ff61f20015ad"},
		{"abcdbcdecdefdefgefghfghighijhijkijkljklmklmnlmnomnopnopq", "248d6a61d20638b8e5c026930c3e6039a33ce45964ff2167f6ecedd419db06c1"},
		{strings.Repeat("a", 1000000), "cdc76e5c9914fb9281a1c7e284d73e67f1809a48a497200e046d39ccc7112cd0"},
	} {
		got := sha.Sum([]byte(c.text))
		if hex.EncodeToString(got[:]) != c.want {
			t.Errorf("Sum of %d bytes = %x, want %s", len(c.text), got, c.want)
		}
	}
	if sha.Sum(nil) != sha.Sum([]byte{}) {
		t.Error("Sum of nil is not Sum of nothing")
	}
}

func TestSum(t *testing.T) {
	for _, n := range append(sizes(), 1<<21-1, 1<<21, 1<<21+3) {
		b := text(n)
		if got, want := sha.Sum(b), sha256.Sum256(b); got != want {
			t.Fatalf("Sum of %d bytes = %x, want %x", n, got, want)
		}
	}
}

func TestTrunc(t *testing.T) {
	for _, size := range []int{0, 1, 55, 56, 64, 100} {
		b := text(size)
		want := sha256.Sum256(b)
		for n := range 33 {
			if got, e := sha.Trunc(b, n); e != api.OK || !bytes.Equal(got, want[:n]) {
				t.Errorf("Trunc(.., %d) = %x, %v, want %x", n, got, e, want[:n])
			}
		}
		for _, n := range []int{-1, 33, 34, 64, -32, math.MinInt, math.MaxInt} {
			if got, e := sha.Trunc(b, n); e != api.ErrArg || len(got) != 0 {
				t.Errorf("Trunc(.., %d) = %x, %v", n, got, e)
			}
		}
	}
	if got, e := sha.Trunc(nil, 2); e != api.OK || !bytes.Equal(got, []byte{0xe3, 0xb0}) {
		t.Errorf("Trunc(nil, 2) = %x, %v", got, e)
	}
}

func TestKeyed(t *testing.T) {
	for _, k := range []int{0, 1, 4, 16, 55, 56, 63, 64, 65, 128, 200} {
		for _, n := range []int{0, 1, 8, 47, 48, 55, 56, 63, 64, 65, 127, 128, 300} {
			key, b := text(k), text(n + 1)[1:]
			want := sha256.Sum256(append(bytes.Clone(key), b...))
			if got := sha.Keyed(key, b); got != want {
				t.Errorf("Keyed of %d and %d bytes = %x, want %x", k, n, got, want)
			}
		}
	}
	if sha.Keyed(nil, nil) != sha256.Sum256(nil) {
		t.Error("Keyed(nil, nil) is not Sum of nothing")
	}
	if sha.Keyed([]byte("a"), []byte("bc")) != sha256.Sum256([]byte("abc")) {
		t.Error("the key does not stand ahead")
	}
}

// P2.3: Expand.

// expanded is what Expand is to answer.
func expanded(seed []byte, n int) []byte {
	var out []byte
	for i := uint32(0); len(out) < n; i++ {
		sum := sha256.Sum256(binary.BigEndian.AppendUint32(bytes.Clone(seed), i))
		out = append(out, sum[:]...)
	}
	return out[:n]
}

func TestExpand(t *testing.T) {
	for _, size := range []int{0, 1, 4, 51, 52, 56, 59, 60, 61, 63, 64, 65, 128, 500} {
		seed := text(size)
		for _, n := range []int{0, 1, 31, 32, 33, 63, 64, 65, 100, 1000, 4064, 4065, 4095, 4096} {
			if got, e := sha.Expand(seed, n); e != api.OK || !bytes.Equal(got, expanded(seed, n)) {
				t.Errorf("Expand of %d bytes to %d: %x, %v", size, n, got, e)
			}
		}
	}
	if got, e := sha.Expand(nil, 40); e != api.OK || !bytes.Equal(got, expanded(nil, 40)) {
		t.Errorf("Expand(nil, 40) = %x, %v", got, e)
	}
}

func TestExpandRefuses(t *testing.T) {
	for _, seed := range [][]byte{nil, {}, {1, 2, 3}} {
		for _, n := range []int{-1, -32, -4097, math.MinInt} {
			if got, e := sha.Expand(seed, n); e != api.ErrArg || len(got) != 0 {
				t.Errorf("Expand(.., %d) = %d bytes, %v", n, len(got), e)
			}
		}
		for _, n := range []int{4097, 5000, 1 << 40, math.MaxInt} {
			if got, e := sha.Expand(seed, n); e != api.ErrLong || len(got) != 0 {
				t.Errorf("Expand(.., %d) = %d bytes, %v", n, len(got), e)
			}
		}
	}
}

// P2.6: a shorter expansion is the beginning of a longer one.
func TestExpandBegins(t *testing.T) {
	seed := text(20)
	long, _ := sha.Expand(seed, api.MaxExpand)
	for n := range api.MaxExpand + 1 {
		if got, e := sha.Expand(seed, n); e != api.OK || len(got) != n || !bytes.HasPrefix(long, got) {
			t.Fatalf("Expand(.., %d) is not how the longest one begins", n)
		}
	}
}

// Rules 4 and 5: what is handed in is not changed, nor is what lies behind it; what is handed out is new memory.
func TestMemory(t *testing.T) {
	for _, n := range []int{0, 1, 5, 55, 56, 60, 63, 64, 65, 100, 128, 130} {
		all := text(n + 200)
		before := bytes.Clone(all)
		b := all[:n]
		clean := bytes.Clone(b)
		trunc, _ := sha.Trunc(b, 20)
		expand, _ := sha.Expand(b, 70)
		h := sha.New()
		h.Write(b)
		pieces := h.Sum()
		h.Write(all[n : n+3])
		if sha.Sum(b) != sha256.Sum256(clean) || pieces != sha256.Sum256(clean) {
			t.Errorf("%d bytes: the digest hangs on what lies behind them", n)
		}
		if sha.Keyed(b, []byte{1, 2}) != sha256.Sum256(append(bytes.Clone(clean), 1, 2)) || sha.Keyed([]byte{1, 2}, b) != sha256.Sum256(append([]byte{1, 2}, clean...)) {
			t.Errorf("%d bytes: Keyed hangs on what lies behind them", n)
		}
		if !bytes.Equal(expand, expanded(clean, 70)) {
			t.Errorf("%d bytes: Expand hangs on what lies behind them", n)
		}
		for _, out := range [][]byte{trunc, expand} {
			for i := range out[:cap(out)] {
				out[:cap(out)][i] = 7
			}
		}
		if !bytes.Equal(all, before) {
			t.Errorf("%d bytes: they, or what lies behind them, were changed", n)
		}
		if again, _ := sha.Trunc(b, 20); bytes.Equal(again, trunc) {
			t.Errorf("%d bytes: Trunc hands out the same memory again", n)
		}
		if again, _ := sha.Expand(b, 70); bytes.Equal(again, expand) {
			t.Errorf("%d bytes: Expand hands out the same memory again", n)
		}
	}
}
