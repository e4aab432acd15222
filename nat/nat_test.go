package nat_test

import (
	"bytes"
	"math"
	"math/big"
	"slices"
	"testing"

	"clepsydra/api"
	"clepsydra/nat"
)

// P1.1: Trim, Of, Cmp, Add, Mul, Sub.

func TestTrim(t *testing.T) {
	for _, a := range numbers() {
		same(t, "Trim", nat.Trim(a), bigOf(a))
	}
	if got := nat.Trim(api.Nat{5, 0, 6, 0, 0}); !slices.Equal(got, api.Nat{5, 0, 6}) {
		t.Errorf("Trim = %v", got)
	}
	for _, a := range []api.Nat{nil, {}, {0}, {0, 0}} {
		if got := nat.Trim(a); len(got) != 0 {
			t.Errorf("Trim(%v) = %v", a, got)
		}
	}
}

func TestOf(t *testing.T) {
	for _, n := range []uint64{1, 2, 255, 256, 1 << 32, 1<<63 - 1, 1 << 63, ones} {
		if got := nat.Of(n); !slices.Equal(got, api.Nat{n}) {
			t.Errorf("Of(%d) = %v", n, got)
		}
	}
	if got := nat.Of(0); len(got) != 0 {
		t.Errorf("Of(0) = %v", got)
	}
}

func TestCmp(t *testing.T) {
	for _, a := range numbers() {
		for _, b := range numbers() {
			if got, want := nat.Cmp(a, b), bigOf(a).Cmp(bigOf(b)); got != want {
				t.Fatalf("Cmp(%v, %v) = %d, want %d", a, b, got, want)
			}
		}
	}
	for _, c := range []struct {
		a, b api.Nat
		want int
	}{
		{nil, api.Nat{0, 0}, 0},
		{api.Nat{7, 0, 0}, api.Nat{7}, 0},
		{api.Nat{7, 0, 0}, api.Nat{8}, -1},
		{api.Nat{8}, api.Nat{7, 0, 0}, 1},
		{api.Nat{ones, 1}, api.Nat{0, 2}, -1},
		{api.Nat{0, 2}, api.Nat{ones, 1}, 1},
		{api.Nat{1, 5, 5}, api.Nat{2, 5, 5}, -1},
	} {
		if got := nat.Cmp(c.a, c.b); got != c.want {
			t.Errorf("Cmp(%v, %v) = %d, want %d", c.a, c.b, got, c.want)
		}
	}
}

func TestAddAndMul(t *testing.T) {
	for _, a := range numbers() {
		for _, b := range numbers() {
			same(t, "Add", nat.Add(a, b), new(big.Int).Add(bigOf(a), bigOf(b)))
			same(t, "Mul", nat.Mul(a, b), new(big.Int).Mul(bigOf(a), bigOf(b)))
		}
	}
	c := chance(3)
	long, longer := c.nat(300), c.nat(1024)
	same(t, "Add", nat.Add(long, longer), new(big.Int).Add(bigOf(long), bigOf(longer)))
	same(t, "Mul", nat.Mul(long, longer), new(big.Int).Mul(bigOf(long), bigOf(longer)))
}

func TestAddCarriesThroughAllLimbs(t *testing.T) {
	a := api.Nat{ones, ones, ones, ones}
	for _, got := range []api.Nat{nat.Add(a, api.Nat{1}), nat.Add(api.Nat{1, 0, 0}, a)} {
		if !slices.Equal(got, api.Nat{0, 0, 0, 0, 1}) {
			t.Errorf("Add = %v", got)
		}
	}
}

func TestSub(t *testing.T) {
	for _, a := range numbers() {
		for _, b := range numbers() {
			got, e := nat.Sub(a, b)
			want := new(big.Int).Sub(bigOf(a), bigOf(b))
			if want.Sign() < 0 {
				if e != api.ErrBelow || len(got) != 0 {
					t.Fatalf("Sub(%v, %v) = %v, %v", a, b, got, e)
				}
				continue
			}
			if e != api.OK {
				t.Fatalf("Sub(%v, %v): %v", a, b, e)
			}
			same(t, "Sub", got, want)
		}
	}
	if got, e := nat.Sub(api.Nat{0, 0, 0, 1}, api.Nat{1}); e != api.OK || !slices.Equal(got, api.Nat{ones, ones, ones}) {
		t.Errorf("Sub = %v, %v", got, e)
	}
	if got, e := nat.Sub(api.Nat{4, 0}, api.Nat{5}); e != api.ErrBelow || len(got) != 0 {
		t.Errorf("Sub = %v, %v", got, e)
	}
	if got, e := nat.Sub(api.Nat{5}, api.Nat{4, 0, 0}); e != api.OK || !slices.Equal(got, api.Nat{1}) {
		t.Errorf("Sub = %v, %v", got, e)
	}
}

// P1.2: Div.

// divided fails, if Div does not answer as the library does.
func divided(t *testing.T, a, b api.Nat) {
	t.Helper()
	q, r, e := nat.Div(a, b)
	if bigOf(b).Sign() == 0 {
		if e != api.ErrZero || len(q) != 0 || len(r) != 0 {
			t.Fatalf("Div(%v, %v) = %v, %v, %v", a, b, q, r, e)
		}
		return
	}
	if e != api.OK {
		t.Fatalf("Div(%v, %v): %v", a, b, e)
	}
	wantQ, wantR := new(big.Int).QuoRem(bigOf(a), bigOf(b), new(big.Int))
	same(t, "Div's quotient", q, wantQ)
	same(t, "what Div leaves", r, wantR)
}

func TestDiv(t *testing.T) {
	for _, a := range numbers() {
		for _, b := range numbers() {
			divided(t, a, b)
			divided(t, nat.Mul(a, b), b)
			divided(t, nat.Add(nat.Mul(a, b), nat.Of(1)), b)
			if less, e := nat.Sub(nat.Mul(a, b), nat.Of(1)); e == api.OK {
				divided(t, less, b)
			}
		}
	}
	c := chance(5)
	divided(t, c.nat(300), c.nat(100))
	divided(t, c.nat(1025), c.nat(512))
	divided(t, c.nat(1025), c.nat(1))
}

// Where limbs are all at an edge digits are guessed too great, by one and by two.
func TestDivOfEdges(t *testing.T) {
	edges := []uint64{0, 1, 2, 1<<63 - 1, 1 << 63, ones - 1, ones}
	eachOf(edges, 6, func(l api.Nat) { divided(t, l[:4], l[4:]) })
	eachOf([]uint64{0, 1, 1 << 63, ones}, 8, func(l api.Nat) { divided(t, l[:5], l[5:]) })
	eachOf(edges, 4, func(l api.Nat) { divided(t, l[:3], l[3:]) })
	eachOf(edges, 4, func(l api.Nat) { divided(t, l[:2], l[2:]) })
}

// eachOf does something with each row of so many of some limbs.
func eachOf(edges []uint64, limbs int, do func(api.Nat)) {
	row, places := make(api.Nat, limbs), make([]int, limbs)
	for {
		for i, place := range places {
			row[i] = edges[place]
		}
		do(row)
		at := 0
		for at < limbs && places[at] == len(edges)-1 {
			places[at] = 0
			at++
		}
		if at == limbs {
			return
		}
		places[at]++
	}
}

func TestDivByZero(t *testing.T) {
	for _, a := range numbers() {
		for _, b := range []api.Nat{nil, {}, {0}, {0, 0, 0}} {
			if q, r, e := nat.Div(a, b); e != api.ErrZero || len(q) != 0 || len(r) != 0 {
				t.Errorf("Div(%v, %v) = %v, %v, %v", a, b, q, r, e)
			}
		}
	}
}

// P1.3: Bits, Bit, Shift.

func TestBits(t *testing.T) {
	for _, a := range numbers() {
		if got, want := nat.Bits(a), bigOf(a).BitLen(); got != want {
			t.Errorf("Bits(%v) = %d, want %d", a, got, want)
		}
	}
	for n := range 300 {
		if got := nat.Bits(nat.Shift(nat.Of(1), n)); got != n+1 {
			t.Errorf("Bits(2^%d) = %d", n, got)
		}
	}
}

func TestBit(t *testing.T) {
	for _, a := range numbers() {
		b := bigOf(a)
		for i := range 64*len(a) + 130 {
			if got, want := nat.Bit(a, i), int(b.Bit(i)); got != want {
				t.Fatalf("Bit(%v, %d) = %d, want %d", a, i, got, want)
			}
		}
		for _, i := range []int{-1, -2, -63, -64, -65, math.MinInt, math.MaxInt, math.MaxInt - 63} {
			if got := nat.Bit(a, i); got != 0 {
				t.Errorf("Bit(%v, %d) = %d", a, i, got)
			}
		}
	}
}

func TestShift(t *testing.T) {
	places := []int{0, 1, 2, 31, 63, 64, 65, 127, 128, 129, 640, 1279, 1280, 1281, 65535, 65536}
	for _, a := range numbers() {
		for _, n := range places {
			same(t, "Shift up", nat.Shift(a, n), new(big.Int).Lsh(bigOf(a), uint(n)))
			same(t, "Shift down", nat.Shift(a, -n), new(big.Int).Rsh(bigOf(a), uint(n)))
		}
	}
}

func TestShiftUpHasALimit(t *testing.T) {
	for _, a := range []api.Nat{nil, {1}, {3, 0}, {ones, 1 << 63}} {
		want := new(big.Int).Lsh(bigOf(a), 65536)
		for _, n := range []int{65536, 65537, 65600, 1 << 20, math.MaxInt32, math.MaxInt64 - 63, math.MaxInt} {
			same(t, "Shift", nat.Shift(a, n), want)
		}
	}
}

func TestShiftDownHasNone(t *testing.T) {
	great := nat.Shift(nat.Shift(api.Nat{5, 7}, 65536), 65536)
	for _, n := range []int{65535, 65536, 65537, 70000, 131071, 131072, 131073, 131136, 131137, 131138, 131139, 131140} {
		same(t, "Shift", nat.Shift(great, -n), new(big.Int).Rsh(bigOf(great), uint(n)))
	}
	for _, a := range append(numbers(), great) {
		for _, n := range []int{-1 << 20, math.MinInt32, math.MinInt + 1, math.MinInt} {
			if got := nat.Shift(a, n); len(got) != 0 {
				t.Errorf("Shift(.., %d) = %v", n, got)
			}
		}
	}
}

// P1.4: Read, Write.

func TestRead(t *testing.T) {
	c := chance(7)
	for n := range 70 {
		b := make([]byte, n)
		for i := range b {
			b[i] = byte(c.next())
		}
		same(t, "Read", nat.Read(b), new(big.Int).SetBytes(b))
		ahead := append(make([]byte, 13), b...)
		same(t, "Read", nat.Read(ahead), new(big.Int).SetBytes(b))
	}
	for _, b := range [][]byte{nil, {}, {0}, make([]byte, 8), make([]byte, 100)} {
		if got := nat.Read(b); len(got) != 0 {
			t.Errorf("Read(%v) = %v", b, got)
		}
	}
	if got := nat.Read([]byte{1, 2, 3, 4, 5, 6, 7, 8, 9}); !slices.Equal(got, api.Nat{0x0203040506070809, 1}) {
		t.Errorf("Read = %x", got)
	}
}

func TestWrite(t *testing.T) {
	for _, a := range numbers() {
		least := (bigOf(a).BitLen() + 7) / 8
		for n := range 180 {
			got, e := nat.Write(a, n)
			if n < least {
				if e != api.ErrWide || len(got) != 0 {
					t.Fatalf("Write(%v, %d) = %v, %v", a, n, got, e)
				}
				continue
			}
			if want := bigOf(a).FillBytes(make([]byte, n)); e != api.OK || !bytes.Equal(got, want) {
				t.Fatalf("Write(%v, %d) = %v, %v, want %v", a, n, got, e, want)
			}
		}
	}
	if b, e := nat.Write(nat.Mul(nat.Of(1<<63), nat.Of(6)), 9); e != api.OK || !bytes.Equal(b, []byte{3, 0, 0, 0, 0, 0, 0, 0, 0}) {
		t.Errorf("Write = %v, %v", b, e)
	}
}

func TestWriteAtItsEdges(t *testing.T) {
	for _, n := range []int{-1, -8, math.MinInt, 65537, 1 << 20, math.MaxInt, math.MaxInt/8 + 2} {
		for _, a := range []api.Nat{nil, {0}, {1}, {ones, ones, ones}} {
			if b, e := nat.Write(a, n); e != api.ErrArg || len(b) != 0 {
				t.Errorf("Write(%v, %d) = %d bytes, %v", a, n, len(b), e)
			}
		}
	}
	if b, e := nat.Write(api.Nat{0, 0}, 0); e != api.OK || len(b) != 0 {
		t.Errorf("Write(0, 0) = %v, %v", b, e)
	}
	if b, e := nat.Write(nat.Of(1), 0); e != api.ErrWide || len(b) != 0 {
		t.Errorf("Write(1, 0) = %v, %v", b, e)
	}
	full := slices.Repeat(api.Nat{ones}, 65536/8)
	if b, e := nat.Write(append(full, 0, 0), 65536); e != api.OK || !bytes.Equal(b, bytes.Repeat([]byte{255}, 65536)) {
		t.Errorf("Write(full, 65536) = %d bytes, %v", len(b), e)
	}
	if b, e := nat.Write(append(full, 1), 65536); e != api.ErrWide || len(b) != 0 {
		t.Errorf("Write(over full, 65536) = %d bytes, %v", len(b), e)
	}
	if b, e := nat.Write(append(full, 1), 65537); e != api.ErrArg || len(b) != 0 {
		t.Errorf("Write(over full, 65537) = %d bytes, %v", len(b), e)
	}
}
