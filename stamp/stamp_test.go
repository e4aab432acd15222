package stamp_test

import (
	"math"
	"math/big"
	"math/rand"
	"testing"

	"clepsydra/api"
	"clepsydra/stamp"
)

const (
	half   = 1 << 63
	latest = math.MaxUint64
)

// times are edges and others.
func times() []uint64 {
	l := []uint64{
		0, 1, 2, 7, 1<<16 - 1, 1 << 16, 1<<32 - 1, 1 << 32, 1<<32 + 1, 3 << 31, 1 << 62,
		half - 2, half - 1, half, half + 1, half + 2, 3 << 62, latest - 1<<32, latest - 1, latest,
	}
	r := rand.New(rand.NewSource(4))
	for range 10 {
		l = append(l, r.Uint64())
	}
	return l
}

// differences are edges and others.
func differences() []int64 {
	var l []int64
	for _, t := range times() {
		l = append(l, int64(t))
	}
	return l
}

// P4.1: Make, Sec, Part, Diff, Move, Before.

func TestMake(t *testing.T) {
	for _, c := range []struct {
		sec, part uint32
		want      uint64
	}{
		{0, 0, 0}, {0, 1, 1}, {1, 0, 1 << 32}, {0, math.MaxUint32, 1<<32 - 1}, {math.MaxUint32, 0, latest - math.MaxUint32},
		{math.MaxUint32, math.MaxUint32, latest}, {1 << 31, 1, half + 1}, {0x01020304, 0xf5060708, 0x01020304f5060708},
	} {
		if got := stamp.Make(c.sec, c.part); got != c.want {
			t.Errorf("Make(%d, %d) = %d, want %d", c.sec, c.part, got, c.want)
		}
		if stamp.Sec(c.want) != c.sec || stamp.Part(c.want) != c.part {
			t.Errorf("%d: Sec = %d, Part = %d", c.want, stamp.Sec(c.want), stamp.Part(c.want))
		}
	}
	for _, one := range times() {
		if stamp.Make(stamp.Sec(one), stamp.Part(one)) != one {
			t.Errorf("%d is not made of its seconds and parts", one)
		}
	}
}

func TestDiff(t *testing.T) {
	for _, c := range []struct {
		a, b uint64
		want int64
	}{
		{0, 0, 0}, {5, 3, 2}, {3, 5, -2}, {0, latest, 1}, {latest, 0, -1}, {latest, latest, 0}, {2, latest - 1, 4},
		{half, 0, math.MinInt64}, {0, half, math.MinInt64}, {half - 1, 0, math.MaxInt64}, {0, half - 1, -math.MaxInt64},
		{0, half + 1, math.MaxInt64}, {half + 1, 0, -math.MaxInt64}, {1 << 32, 0, 1 << 32},
	} {
		if got := stamp.Diff(c.a, c.b); got != c.want {
			t.Errorf("Diff(%d, %d) = %d, want %d", c.a, c.b, got, c.want)
		}
		if got := stamp.Before(c.a, c.b); got != (c.want < 0) {
			t.Errorf("Before(%d, %d) = %v", c.a, c.b, got)
		}
	}
}

func TestMove(t *testing.T) {
	for _, c := range []struct {
		t    uint64
		d    int64
		want uint64
	}{
		{0, 0, 0}, {5, 3, 8}, {5, -3, 2}, {3, -5, latest - 1}, {latest, 1, 0}, {0, -1, latest},
		{0, math.MaxInt64, half - 1}, {0, math.MinInt64, half}, {half, math.MinInt64, 0}, {latest, math.MinInt64, half - 1},
	} {
		if got := stamp.Move(c.t, c.d); got != c.want {
			t.Errorf("Move(%d, %d) = %d, want %d", c.t, c.d, got, c.want)
		}
	}
}

// P4.2: Offset, Delay.

// whole is Diff as a whole number.
func whole(a, b uint64) *big.Int { return big.NewInt(stamp.Diff(a, b)) }

// nearest is the nearest difference.
func nearest(n *big.Int) int64 {
	if n.IsInt64() {
		return n.Int64()
	}
	if n.Sign() < 0 {
		return math.MinInt64
	}
	return math.MaxInt64
}

// told fails, if Offset and Delay do not answer as whole numbers say.
func told(t *testing.T, t1, t2, t3, t4 uint64) {
	t.Helper()
	sum := new(big.Int).Add(whole(t2, t1), whole(t3, t4))
	// Rsh rounds down, below 0 too.
	if got, want := stamp.Offset(t1, t2, t3, t4), sum.Rsh(sum, 1).Int64(); got != want {
		t.Fatalf("Offset(%d, %d, %d, %d) = %d, want %d", t1, t2, t3, t4, got, want)
	}
	rest := new(big.Int).Sub(whole(t4, t1), whole(t3, t2))
	if got, want := stamp.Delay(t1, t2, t3, t4), nearest(rest); got != want {
		t.Fatalf("Delay(%d, %d, %d, %d) = %d, want %d", t1, t2, t3, t4, got, want)
	}
}

func TestOffsetAndDelay(t *testing.T) {
	l := times()
	for _, t1 := range l {
		for _, t2 := range l {
			for _, t3 := range l {
				for _, t4 := range l {
					told(t, t1, t2, t3, t4)
				}
			}
		}
	}
}

func TestOffsetAndDelayExamples(t *testing.T) {
	for _, c := range []struct {
		t1, t2, t3, t4 uint64
		offset, delay  int64
	}{
		{0, 7, 7, 4, 5, 4}, {0, 0, 0, 0, 0, 0}, {0, 1, 1, 1, 0, 1}, {1, 0, 0, 0, -1, -1}, {4, 0, 0, 5, -5, 1},
		{10, 20, 25, 20, 7, 5}, {latest, 4, 5, 2, 4, 2},
		{0, half - 1, half - 1, 0, math.MaxInt64, 0}, {0, half, half, 0, math.MinInt64, 0}, {0, half, half - 1, 0, -1, 1},
		{0, 1, 0, half - 1, math.MinInt64/2 + 1, math.MaxInt64}, {0, 0, 1, half, math.MinInt64 / 2, math.MinInt64},
	} {
		if got := stamp.Offset(c.t1, c.t2, c.t3, c.t4); got != c.offset {
			t.Errorf("Offset(%d, %d, %d, %d) = %d, want %d", c.t1, c.t2, c.t3, c.t4, got, c.offset)
		}
		if got := stamp.Delay(c.t1, c.t2, c.t3, c.t4); got != c.delay {
			t.Errorf("Delay(%d, %d, %d, %d) = %d, want %d", c.t1, c.t2, c.t3, c.t4, got, c.delay)
		}
	}
}

// P4.3: Short, Long, Poll.

func TestShort(t *testing.T) {
	for _, c := range []struct {
		d    int64
		want uint32
	}{
		{0, 0}, {1, 0}, {65535, 0}, {65536, 1}, {131071, 1}, {131072, 2}, {1 << 32, 1 << 16},
		{-1, 0}, {-65536, 0}, {-1 << 32, 0}, {math.MinInt64, 0}, {math.MinInt64 + 1, 0},
		{math.MaxUint32<<16 - 1, math.MaxUint32 - 1}, {math.MaxUint32 << 16, math.MaxUint32}, {1<<48 - 1, math.MaxUint32},
		{1 << 48, math.MaxUint32}, {1<<48 + 65536, math.MaxUint32}, {1 << 62, math.MaxUint32}, {math.MaxInt64, math.MaxUint32},
	} {
		if got := stamp.Short(c.d); got != c.want {
			t.Errorf("Short(%d) = %d, want %d", c.d, got, c.want)
		}
	}
}

func TestLong(t *testing.T) {
	for _, s := range []uint32{0, 1, 2, 65535, 65536, 1 << 31, math.MaxUint32 - 1, math.MaxUint32} {
		if got := stamp.Long(s); got != int64(s)*65536 || stamp.Short(got) != s || stamp.Short(got+65535) != s {
			t.Errorf("Long(%d) = %d", s, got)
		}
	}
}

func TestPoll(t *testing.T) {
	seconds := int64(1)
	for p := range 18 {
		if got, e := stamp.Poll(p); e != api.OK || got != seconds<<32 {
			t.Errorf("Poll(%d) = %d, %v", p, got, e)
		}
		seconds *= 2
	}
	for _, p := range []int{-1, 18, 19, 31, 32, 64, -17, math.MinInt, math.MaxInt} {
		if got, e := stamp.Poll(p); e != api.ErrArg || got != 0 {
			t.Errorf("Poll(%d) = %d, %v", p, got, e)
		}
	}
}
