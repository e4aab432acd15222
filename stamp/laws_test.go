package stamp_test

import (
	"math"
	"math/rand"
	"testing"

	"clepsydra/api"
	"clepsydra/stamp"
)

// P4.5: a time moved by a difference is as much later.
func TestMovedByADifference(t *testing.T) {
	for _, a := range times() {
		for _, b := range times() {
			if got := stamp.Move(b, stamp.Diff(a, b)); got != a {
				t.Fatalf("%d moved by Diff(%d, %d) is %d", b, a, b, got)
			}
		}
		for _, d := range differences() {
			if got := stamp.Diff(stamp.Move(a, d), a); got != d {
				t.Fatalf("%d moved by %d is %d later", a, d, got)
			}
			if stamp.Before(stamp.Move(a, d), a) != (d < 0) {
				t.Fatalf("%d moved by %d is, or is not, before it", a, d)
			}
		}
	}
}

// P4.6: what is printed is parsed as it was.
func TestPrintedAndParsed(t *testing.T) {
	for _, one := range someTimes() {
		if got, e := stamp.Parse(stamp.Print(one)); e != api.OK || got != one {
			t.Fatalf("%d came back as %d, %v", one, got, e)
		}
	}
	for part := uint64(0); part < 1<<32; part += 99991 {
		for _, one := range []uint64{part, latest - part} {
			if got, e := stamp.Parse(stamp.Print(one)); e != api.OK || got != one {
				t.Fatalf("%d came back as %d, %v", one, got, e)
			}
		}
	}
}

// below is a drawn number from 0 to 2^digits - 1, often one of few digits.
func below(r *rand.Rand, digits int) int64 {
	return r.Int63() >> (63 - digits) >> r.Intn(digits)
}

// P4.7: if both times of the other clock are moved on, the offset is as much more, and the delay the same.
func TestOtherClockMovedOn(t *testing.T) {
	r := rand.New(rand.NewSource(47))
	for range 20000 {
		t1 := r.Uint64()
		t2 := stamp.Move(t1, below(r, 61)-below(r, 61))
		t3 := stamp.Move(t2, below(r, 61))
		t4 := stamp.Move(t1, below(r, 61))
		d := below(r, 61) - below(r, 61)
		offset, delay := stamp.Offset(t1, t2, t3, t4), stamp.Delay(t1, t2, t3, t4)
		t2, t3 = stamp.Move(t2, d), stamp.Move(t3, d)
		if got := stamp.Offset(t1, t2, t3, t4); got != offset+d {
			t.Fatalf("moved on by %d the offset %d is %d", d, offset, got)
		}
		if got := stamp.Delay(t1, t2, t3, t4); got != delay {
			t.Fatalf("moved on by %d the delay %d is %d", d, delay, got)
		}
	}
}

// P4.8: the offset told is off by at most half the delay, which is what the ways take, and half a unit.
func TestHalfTheDelay(t *testing.T) {
	r := rand.New(rand.NewSource(48))
	for i := range 20000 {
		ahead, there, back, stay := below(r, 60)-below(r, 60), below(r, 60), below(r, 60), below(r, 60)
		switch i % 4 {
		case 1:
			there = 0
		case 2:
			back = 0
		case 3:
			back = there
		}
		t1 := r.Uint64()
		t2 := stamp.Move(t1, there+ahead)
		t3 := stamp.Move(t2, stay)
		t4 := stamp.Move(t3, back-ahead)
		offset, delay := stamp.Offset(t1, t2, t3, t4), stamp.Delay(t1, t2, t3, t4)
		if delay != there+back {
			t.Fatalf("ways of %d and %d: the delay is %d", there, back, delay)
		}
		if off := 2 * (offset - ahead); off > delay+1 || off < -delay-1 {
			t.Fatalf("ways of %d and %d, ahead by %d: the offset is %d", there, back, ahead, offset)
		}
		if there == back && offset != ahead {
			t.Fatalf("ways of %d each, ahead by %d: the offset is %d", there, ahead, offset)
		}
	}
}

// P1: every call ends and none panics, at the ends of all types, too.
func TestEnds(t *testing.T) {
	for _, d := range differences() {
		stamp.Short(d)
		stamp.Poll(int(d))
		stamp.Poll(int(-d))
	}
	for _, one := range times() {
		if stamp.Delay(one, one, one, one) != 0 || stamp.Offset(one, one, one, one) != 0 {
			t.Errorf("%d: an exchange in no time", one)
		}
	}
	if stamp.Short(math.MaxInt64) != math.MaxUint32 || stamp.Short(math.MinInt64) != 0 {
		t.Error("Short beyond its ends")
	}
}
