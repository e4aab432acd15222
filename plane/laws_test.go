package plane_test

import (
	"math"
	"math/rand"
	"slices"
	"testing"

	"clepsydra/api"
	"clepsydra/plane"
)

// P13.4: four turns are none, and a turn changes no distance.
func TestTurns(t *testing.T) {
	look := func(a, b complex128) {
		z := plane.Turn(plane.Turn(plane.Turn(plane.Turn(a))))
		if !alikePoints(z, a) || !isFinitePoint(a) {
			t.Fatalf("four turns of %v: %v", a, z)
		}
		if got, want := plane.Far(plane.Turn(a), plane.Turn(b)), plane.Far(a, b); !alike(got, want) {
			t.Fatalf("turned %v and %v lie apart %g, not %g", a, b, got, want)
		}
	}
	r := rand.New(rand.NewSource(139))
	for _, a := range points() {
		if !isFinitePoint(a) {
			continue
		}
		for _, b := range points() {
			if isFinitePoint(b) {
				look(a, b)
			}
		}
		l := anyPoints(r, 2, 1000)
		look(l[0], l[1])
		look(a, l[0])
	}
}

// P13.5: points with whole parts below 2^40 have just the mean that whole numbers tell.
func TestWholeMeans(t *testing.T) {
	r := rand.New(rand.NewSource(140))
	for i := range 1000 {
		n := int64(1 + r.Intn(1024))
		if i < 10 {
			n = 1024 - int64(i)
		}
		l := make([]complex128, n)
		var re, im int64
		for i := range l {
			l[i] = anyWhole(r)
			re, im = re+int64(real(l[i])), im+int64(imag(l[i]))
		}
		// The last one is set right, towards 0, so that the number parts the sums.
		last := l[n-1]
		x, y := towards(int64(real(last)), re%n, n), towards(int64(imag(last)), im%n, n)
		re, im = re-int64(real(last))+x, im-int64(imag(last))+y
		l[n-1] = plane.Point(x, y)
		if got, e := plane.Mean(l); re%n != 0 || im%n != 0 || e != api.OK || !plane.Same(got, plane.Point(re/n, im/n)) {
			t.Fatalf("Mean of %d = %v, %v, want %d, %d by the number", n, got, e, re, im)
		}
	}
	// As great as they may be.
	most := int64(1)<<40 - 1
	for _, z := range []complex128{plane.Point(most, -most), plane.Point(-most, most)} {
		if got, e := plane.Mean(repeated(z, 1024)); e != api.OK || !plane.Same(got, z) {
			t.Errorf("Mean of the greatest = %v, %v", got, e)
		}
	}
}

// towards is a number less a rest, or less the rest and a whole n more, so that it gets not further from 0 than n.
func towards(x, rest, n int64) int64 {
	if x -= rest; x < -n {
		return x + n
	} else if x > n {
		return x - n
	}
	return x
}

// P13.5: a spread of 0 is there just if all are the same.
func TestSpreadOfNothing(t *testing.T) {
	r := rand.New(rand.NewSource(141))
	most := float64(1<<40 - 1)
	for i := range 1000 {
		n := 2 + r.Intn(1023)
		z := anyWhole(r)
		if i%5 == 0 {
			n, z = 1024, complex(most, -most)
		}
		l := repeated(z, n)
		if got, e := plane.Spread(l); got != 0 || e != api.OK {
			t.Fatalf("Spread of %d times %v = %g, %v", n, z, got, e)
		}
		// One that differs by one, in one of its parts.
		place, less := r.Intn(n), []complex128{1, 1i}[r.Intn(2)]
		l[place] -= less
		if got, e := plane.Spread(l); !(got > 0) || e != api.OK {
			t.Fatalf("Spread of %d times %v, and one %v less = %g, %v", n, z, less, got, e)
		}
		for j := range l {
			l[j] = anyWhole(r)
		}
		if got, e := plane.Spread(l); !(got > 0) || e != api.OK {
			t.Fatalf("Spread(%v) = %g, %v", l, got, e)
		}
	}
}

// P13.6: no point lies less far than the nearest one.
func TestNoneNearer(t *testing.T) {
	r := rand.New(rand.NewSource(142))
	edges := points()
	for range 3000 {
		l := anyPoints(r, 1+r.Intn(30), 1+r.Intn(20))
		for range r.Intn(5) {
			l[r.Intn(len(l))] = edges[r.Intn(len(edges))]
		}
		z := plane.Scale(l[r.Intn(len(l))], 0.5)
		place, e := plane.Nearest(l, z)
		if e != api.OK || place < 0 || place >= len(l) {
			t.Fatalf("Nearest(%v, %v) = %d, %v", l, z, place, e)
		}
		for _, p := range l {
			if plane.Far(p, z) < plane.Far(l[place], z) {
				t.Fatalf("of %v %v lies less far from %v than the nearest one, %v", l, p, z, l[place])
			}
		}
	}
}

// Rules 4 and 5: what is handed in is not changed, what lies behind it plays no part; rule 8: what is answered hangs on what is handed in alone.
func TestMemory(t *testing.T) {
	r := rand.New(rand.NewSource(143))
	for _, n := range []int{0, 1, 2, 50, 1023, 1024} {
		plain := anyPoints(r, n, 20)
		whole := slices.Concat(plain, []complex128{complex(math.NaN(), math.Inf(1)), 0, 1 << 60})
		before := slices.Clone(whole)
		l := whole[:n]
		want := answersOf(plain)
		for range 2 {
			if got := answersOf(l); got != want {
				t.Errorf("of %d with others behind: %v, want %v", n, got, want)
			}
		}
		if !slices.EqualFunc(whole, before, alikePoints) {
			t.Errorf("of %d: what was handed in is changed", n)
		}
	}
}

// answers are what is told of a list.
type answers struct {
	sum, mean                   complex128
	spread                      float64
	nearest                     int
	ofMean, ofSpread, ofNearest api.Errno
}

func answersOf(l []complex128) answers {
	a := answers{sum: plane.Sum(l)}
	a.mean, a.ofMean = plane.Mean(l)
	a.spread, a.ofSpread = plane.Spread(l)
	a.nearest, a.ofNearest = plane.Nearest(l, 0)
	return a
}

// P1: each call ends, whatever the points are.
func TestAnyPoints(t *testing.T) {
	r := rand.New(rand.NewSource(144))
	edges := points()
	for range 500 {
		l := make([]complex128, r.Intn(1100))
		for i := range l {
			l[i] = edges[r.Intn(len(edges))]
		}
		a := answersOf(l)
		want := api.OK
		if len(l) == 0 {
			want = api.ErrNone
		} else if len(l) > 1024 {
			want = api.ErrLong
		}
		if a.ofMean != want || a.ofSpread != want || a.ofNearest != want {
			t.Fatalf("of %d points: %v", len(l), a)
		}
	}
	if got := plane.Sum(make([]complex128, 1<<22)); got != 0 {
		t.Errorf("Sum of noughts = %v", got)
	}
}
