package plane_test

import (
	"math"
	"math/big"
	"math/rand"
	"testing"

	"clepsydra/api"
	"clepsydra/plane"
)

// P13.1: Point, Sum, Mean.

func TestPoint(t *testing.T) {
	for _, c := range []struct {
		n    int64
		want float64
	}{
		{0, 0}, {1, 1}, {-1, -1}, {1 << 32, 0x1p32}, {1 << 53, 0x1p53}, {1<<53 + 1, 0x1p53}, {1<<53 + 2, 0x1p53 + 2}, {1<<53 + 3, 0x1p53 + 4}, {-1<<53 - 1, -0x1p53}, {-1<<53 - 3, -0x1p53 - 4},
		{math.MaxInt64, 0x1p63}, {math.MinInt64, -0x1p63}, {1<<62 + 1<<9, 0x1p62}, {1<<62 + 1<<9 + 1, 0x1p62 + 1<<10},
	} {
		wantPoint(t, "Point", plane.Point(c.n, 5), complex(c.want, 5))
		wantPoint(t, "Point", plane.Point(5, c.n), complex(5, c.want))
	}
	r := rand.New(rand.NewSource(131))
	for range 5000 {
		a, b := int64(r.Uint64())>>r.Intn(64), int64(r.Uint64())>>r.Intn(64)
		want := complex(rounded(new(big.Rat).SetInt64(a)), rounded(new(big.Rat).SetInt64(b)))
		if got := plane.Point(a, b); got != want {
			t.Fatalf("Point(%d, %d) = %v, want %v", a, b, got, want)
		}
	}
}

func TestSum(t *testing.T) {
	inf, most, least := math.Inf(1), math.MaxFloat64, math.SmallestNonzeroFloat64
	for _, c := range []struct {
		l    []float64
		want float64
	}{
		{nil, 0}, {[]float64{0}, 0}, {[]float64{minusZero()}, 0}, {[]float64{minusZero(), minusZero()}, 0}, {[]float64{5}, 5}, {[]float64{-5, 5}, 0}, {[]float64{5, -5, minusZero()}, 0},
		// From the first one on, each sum rounded.
		{[]float64{0x1p53, 1, 1}, 0x1p53}, {[]float64{1, 1, 0x1p53}, 0x1p53 + 2}, {[]float64{1e16, 1, -1e16}, 0}, {[]float64{1e16, -1e16, 1}, 1}, {[]float64{0.1, 0.2, 0.3}, 0.6000000000000001}, {[]float64{0.3, 0.2, 0.1}, 0.6},
		{[]float64{least, least}, 2 * least}, {[]float64{-least, least}, 0},
		{[]float64{most, most}, inf}, {[]float64{-most, -most}, -inf}, {[]float64{most, most, -most}, inf}, {[]float64{most, -most, most}, most},
		{[]float64{inf, 1}, inf}, {[]float64{inf, -inf}, math.NaN()}, {[]float64{inf, inf}, inf}, {[]float64{1, math.NaN(), 1}, math.NaN()},
	} {
		re, im := make([]complex128, len(c.l)), make([]complex128, len(c.l))
		for i, x := range c.l {
			re[i], im[i] = complex(x, 1), complex(2, x)
		}
		wantPoint(t, "Sum", plane.Sum(re), complex(c.want, float64(len(c.l))))
		wantPoint(t, "Sum", plane.Sum(im), complex(float64(2*len(c.l)), c.want))
	}
	wantPoint(t, "Sum of none", plane.Sum([]complex128{}), 0)
	r := rand.New(rand.NewSource(132))
	for range 300 {
		l := anyPoints(r, r.Intn(60), 1000)
		if got, want := plane.Sum(l), totalOf(l); got != want {
			t.Fatalf("Sum(%v) = %v, want %v", l, got, want)
		}
	}
}

// Of more points than have a mean there is a sum.
func TestSumOfMany(t *testing.T) {
	for _, n := range []int{1023, 1024, 1025, 5000, 1 << 20} {
		if got, want := plane.Sum(repeated(3-2i, n)), complex(float64(3*n), float64(-2*n)); got != want {
			t.Errorf("Sum of %d = %v, want %v", n, got, want)
		}
	}
}

func TestMean(t *testing.T) {
	inf, most, least := math.Inf(1), math.MaxFloat64, math.SmallestNonzeroFloat64
	for _, c := range []struct{ l, want []complex128 }{
		{[]complex128{1 + 2i, 3 + 4i}, []complex128{2 + 3i}}, {[]complex128{7 - 3i}, []complex128{7 - 3i}}, {[]complex128{1, 1i}, []complex128{0.5 + 0.5i}},
		{[]complex128{1, 0, 0}, []complex128{1.0 / 3}}, {[]complex128{5i, 0, 0, 0, 0, 0, 0}, []complex128{5.0 / 7 * 1i}},
		{[]complex128{complex(minusZero(), minusZero())}, []complex128{0}}, {[]complex128{complex(-least, least), 0}, []complex128{complex(minusZero(), 0)}},
		// The sum first, whatever becomes of it.
		{[]complex128{complex(most, -most), complex(most, -most)}, []complex128{complex(inf, -inf)}}, {[]complex128{complex(inf, 1), complex(-inf, 3)}, []complex128{complex(math.NaN(), 2)}},
		{[]complex128{complex(math.NaN(), inf), 2}, []complex128{complex(math.NaN(), inf)}},
	} {
		got, e := plane.Mean(c.l)
		if e != api.OK {
			t.Errorf("Mean(%v): %v", c.l, e)
		}
		wantPoint(t, "Mean", got, c.want[0])
	}
	r := rand.New(rand.NewSource(133))
	for i := range 400 {
		n := 1 + r.Intn(60)
		if i%50 == 0 {
			n = 1000 + r.Intn(25)
		}
		l := anyPoints(r, n, 1000)
		if got, e := plane.Mean(l); e != api.OK || got != meanOf(l) {
			t.Fatalf("Mean(%v) = %v, %v, want %v", l, got, e, meanOf(l))
		}
	}
}

// A part of the sum by the number is not the part times the number's inverse.
func TestMeanParts(t *testing.T) {
	differ := 0
	for n := 1; n <= 1024; n++ {
		l := repeated(0, n)
		l[n-1] = complex(float64(n-1), 1)
		got, e := plane.Mean(l)
		if want := complex(byOf(float64(n-1), float64(n)), byOf(1, float64(n))); e != api.OK || got != want {
			t.Fatalf("Mean of %d = %v, %v, want %v", n, got, e, want)
		}
		if float64(n-1)*(1/float64(n)) != real(got) {
			differ++
		}
	}
	if differ < 50 {
		t.Errorf("only %d quotients tell", differ)
	}
}

func TestBounds(t *testing.T) {
	for n, want := range map[int]api.Errno{0: api.ErrNone, 1: api.OK, 1023: api.OK, 1024: api.OK, 1025: api.ErrLong, 1026: api.ErrLong, 2048: api.ErrLong, 1 << 20: api.ErrLong} {
		l := repeated(2+3i, n)
		mean, e := plane.Mean(l)
		spread, f := plane.Spread(l)
		place, g := plane.Nearest(l, 5)
		if e != want || f != want || g != want || spread != 0 || place != 0 {
			t.Errorf("of %d: Mean: %v, Spread: %g, %v, Nearest: %d, %v, want %v", n, e, spread, f, place, g, want)
		}
		if want != api.OK {
			wantPoint(t, "Mean beside an error", mean, 0)
			l = append(l, 9, 1)
			wantBits(t, "Spread beside an error", spread, 0)
		} else if mean != 2+3i {
			t.Errorf("Mean of %d = %v", n, mean)
		}
	}
	_, e := plane.Mean(nil)
	_, f := plane.Spread(nil)
	if _, g := plane.Nearest(nil, 0); e != api.ErrNone || f != api.ErrNone || g != api.ErrNone {
		t.Errorf("of nil: %v, %v, %v", e, f, g)
	}
	// Points that differ show that beside ErrLong nothing else is told.
	l := repeated(7, 1025)
	l[0], l[1000] = 1<<40, 3
	spread, e := plane.Spread(l)
	if place, f := plane.Nearest(l, 3); e != api.ErrLong || spread != 0 || f != api.ErrLong || place != 0 {
		t.Errorf("Spread: %g, %v, Nearest: %d, %v", spread, e, place, f)
	}
}

// P13.2: Turn, Scale, Far, Same, Bits.

func TestTurn(t *testing.T) {
	if got := plane.Turn(1 + 2i); got != -2+1i {
		t.Errorf("Turn = %v", got)
	}
	for _, z := range points() {
		re, im := real(z), imag(z)
		wantPoint(t, "Turn", plane.Turn(z), complex(math.Copysign(im, -math.Copysign(1, im)), re))
	}
}

func TestScale(t *testing.T) {
	inf, nan, most, least := math.Inf(1), math.NaN(), math.MaxFloat64, math.SmallestNonzeroFloat64
	for _, c := range []struct{ a, b, want float64 }{
		{2, 3, 6}, {-2, 3, -6}, {-2, -3, 6}, {0, 5, 0}, {0, -5, minusZero()}, {minusZero(), 5, minusZero()}, {minusZero(), -5, 0}, {0, 0, 0}, {minusZero(), 0, minusZero()}, {minusZero(), minusZero(), 0},
		{0.1, 3, 0.30000000000000004}, {most, 2, inf}, {most, -2, -inf}, {most, 1, most}, {least, 0.5, 0}, {least, -0.5, minusZero()}, {least, 0.75, least}, {3 * least, 0.5, 2 * least},
		{inf, 0, nan}, {-inf, minusZero(), nan}, {inf, -1, -inf}, {inf, inf, inf}, {-inf, inf, -inf}, {nan, 0, nan}, {nan, 1, nan}, {1, nan, nan},
	} {
		wantPoint(t, "Scale", plane.Scale(complex(c.a, 1), c.b), complex(c.want, c.b))
		wantPoint(t, "Scale", plane.Scale(complex(1, c.a), c.b), complex(c.b, c.want))
		wantPoint(t, "Scale", plane.Scale(complex(c.b, 0.5), c.a), complex(c.want, c.a*0.5))
	}
	for _, z := range points() {
		for _, f := range floats() {
			if got := plane.Scale(z, f); isFinitePoint(z) && isFinite(f) && got != complex(timesOf(real(z), f), timesOf(imag(z), f)) {
				t.Fatalf("Scale(%v, %g) = %v", z, f, got)
			}
		}
	}
	// A part that is no number, or without bound, spoils not the other one.
	wantPoint(t, "Scale", plane.Scale(complex(inf, 1), 2), complex(inf, 2))
	wantPoint(t, "Scale", plane.Scale(complex(nan, 3), 2), complex(nan, 6))
	r := rand.New(rand.NewSource(134))
	for range 3000 {
		z, f := complex(anyFloat(r, 1000), anyFloat(r, 1000)), anyFloat(r, 1000)
		if got := plane.Scale(z, f); got != complex(timesOf(real(z), f), timesOf(imag(z), f)) {
			t.Fatalf("Scale(%v, %g) = %v", z, f, got)
		}
	}
}

func TestFar(t *testing.T) {
	inf, nan, most := math.Inf(1), math.NaN(), math.MaxFloat64
	for _, c := range []struct {
		a, b complex128
		want float64
	}{
		{0, 3 - 4i, 4}, {0, 4 - 3i, 4}, {3 - 4i, 0, 4}, {-3, -8, 5}, {5, 5i, 5}, {1 + 1i, 1 + 1i, 0}, {0, complex(minusZero(), minusZero()), 0}, {complex(minusZero(), minusZero()), 0, 0},
		{complex(most, 0), complex(-most, 0), inf}, {complex(inf, 0), complex(-inf, 0), inf}, {0, complex(7, -inf), inf},
		// One that is no number is above nothing, and nothing is above it.
		{complex(inf, 7), complex(inf, 2), 5}, {complex(7, inf), complex(2, inf), nan}, {complex(nan, 7), 0, 7}, {complex(7, nan), 0, nan}, {complex(nan, inf), 0, inf}, {complex(inf, nan), 0, nan}, {complex(nan, nan), 0, nan}, {0, complex(3, nan), nan}, {0, complex(nan, -3), 3},
	} {
		wantBits(t, "Far", plane.Far(c.a, c.b), c.want)
	}
	for _, a := range points() {
		for _, b := range points() {
			if got, want := plane.Far(a, b), farOf(a, b); !alike(got, want) {
				t.Fatalf("Far(%v, %v) = %g, want %g", a, b, got, want)
			}
		}
	}
	r := rand.New(rand.NewSource(135))
	for range 3000 {
		l := anyPoints(r, 2, 1+r.Intn(1000))
		if got, want := plane.Far(l[0], l[1]), farOf(l[0], l[1]); !alike(got, want) {
			t.Fatalf("Far(%v) = %g, want %g", l, got, want)
		}
	}
}

func TestSame(t *testing.T) {
	same := func(a, b float64) bool {
		x, y := math.Float64bits(a), math.Float64bits(b)
		return !math.IsNaN(a) && x == y || x<<1 == 0 && y<<1 == 0
	}
	for _, a := range points() {
		for _, b := range points() {
			if got, want := plane.Same(a, b), same(real(a), real(b)) && same(imag(a), imag(b)); got != want {
				t.Fatalf("Same(%v, %v) = %v", a, b, got)
			}
		}
	}
	z := complex(math.NaN(), 1)
	if plane.Same(z, z) || plane.Same(0.1+1i, complex(math.Nextafter(0.1, 1), 1)) || !plane.Same(complex(0, minusZero()), complex(minusZero(), 0)) {
		t.Error("Same")
	}
}

func TestBits(t *testing.T) {
	for _, c := range []struct {
		x    float64
		want uint64
	}{
		{0, 0}, {minusZero(), 1 << 63}, {1, 0x3ff << 52}, {-2, 0xc00 << 52}, {math.SmallestNonzeroFloat64, 1}, {math.Inf(1), 0x7ff << 52}, {math.Inf(-1), 0xfff << 52}, {math.MaxFloat64, 0x7fefffffffffffff}, {0.1, 0x3fb999999999999a},
	} {
		if re, im := plane.Bits(complex(c.x, 1)); re != c.want || im != 0x3ff<<52 {
			t.Errorf("Bits of %g and 1: %x, %x", c.x, re, im)
		}
		if re, im := plane.Bits(complex(1, c.x)); re != 0x3ff<<52 || im != c.want {
			t.Errorf("Bits of 1 and %g: %x, %x", c.x, re, im)
		}
	}
	r := rand.New(rand.NewSource(136))
	for range 5000 {
		a, b := r.Uint64(), r.Uint64()
		x, y := math.Float64frombits(a), math.Float64frombits(b)
		if re, im := plane.Bits(complex(x, y)); !math.IsNaN(x) && re != a || !math.IsNaN(y) && im != b {
			t.Fatalf("Bits of %x, %x: %x, %x", a, b, re, im)
		}
	}
}

// P13.3: Spread, Nearest.

func TestSpread(t *testing.T) {
	inf, nan, most := math.Inf(1), math.NaN(), math.MaxFloat64
	for _, c := range []struct {
		l    []complex128
		want float64
	}{
		{[]complex128{5 + 6i}, 0}, {[]complex128{1, 3}, 1}, {[]complex128{1i, 3i}, 1}, {[]complex128{1 + 1i, 3 + 3i}, 2}, {[]complex128{0, 3, 6}, 6}, {[]complex128{-4 + 1i, 4 + 1i, 0 - 2i}, 38.0 / 3}, {[]complex128{0, 0, 0, 4}, 3},
		{[]complex128{complex(most, 0), complex(most, 0)}, inf}, {[]complex128{complex(most, 0), complex(-most, 0)}, inf}, {[]complex128{0x1p600, -0x1p600}, inf}, {[]complex128{0x1p-600, -0x1p-600}, 0},
		{[]complex128{complex(inf, 0)}, nan}, {[]complex128{complex(0, nan), 1}, nan}, {[]complex128{1, complex(-inf, 0)}, nan},
		{[]complex128{complex(minusZero(), minusZero())}, 0},
	} {
		got, e := plane.Spread(c.l)
		if e != api.OK {
			t.Errorf("Spread(%v): %v", c.l, e)
		}
		wantBits(t, "Spread", got, c.want)
	}
}

// Each product is rounded, and so is each sum: what a machine makes of both at once is something else, and so are the sums in another order.
func TestSpreadByChance(t *testing.T) {
	r := rand.New(rand.NewSource(137))
	fused, reordered := 0, 0
	for i := range 600 {
		n := 1 + r.Intn(40)
		if i%100 == 0 {
			n = 1000 + r.Intn(25)
		}
		l := anyPoints(r, n, []int{2, 400}[i%2])
		got, e := plane.Spread(l)
		if want := spreadOf(l); e != api.OK || !alike(got, want) {
			t.Fatalf("Spread(%v) = %g, %v, want %g", l, got, e, want)
		}
		mean, ofFused, ofReordered := meanOf(l), 0.0, 0.0
		for _, z := range l {
			re, im := real(z)-real(mean), imag(z)-imag(mean)
			ofFused += math.FMA(re, re, timesOf(im, im))
			ofReordered = sumOf(sumOf(ofReordered, timesOf(re, re)), timesOf(im, im))
		}
		if ofFused/float64(n) != got {
			fused++
		}
		if ofReordered/float64(n) != got {
			reordered++
		}
	}
	if fused < 50 || reordered < 50 {
		t.Errorf("only %d and %d spreads tell", fused, reordered)
	}
}

func TestNearest(t *testing.T) {
	inf, nan := math.Inf(1), math.NaN()
	for _, c := range []struct {
		l    []complex128
		z    complex128
		want int
	}{
		{[]complex128{9}, 0, 0}, {[]complex128{9, 1, 2}, 0, 1}, {[]complex128{9, 2, 1}, 0, 2}, {[]complex128{9i, 1i, 2i}, 3i, 2}, {[]complex128{3 - 4i, 4 - 4i, 3 - 3i}, 0, 2},
		// Of several as near the first one; the greater worth tells, not the way.
		{[]complex128{5, 3, -3, 3i, -3i, 3 + 3i}, 0, 1}, {[]complex128{3 + 3i, 3}, 0, 0}, {[]complex128{0, minusZeroPoint()}, 0, 0}, {[]complex128{minusZeroPoint(), 0}, 0, 0}, {[]complex128{4, 3 + 3i}, 0, 1},
		// Nothing lies less far than what is no number.
		{[]complex128{complex(0, nan), 1}, 0, 0}, {[]complex128{1, complex(0, nan), 0.5}, 0, 2}, {[]complex128{complex(nan, 2), 1, complex(nan, 0)}, 0, 2}, {[]complex128{1, 2}, complex(0, nan), 0}, {[]complex128{2i, 1i}, complex(nan, 0), 1},
		{[]complex128{complex(inf, 0), 5, complex(-inf, 0)}, 0, 1}, {[]complex128{complex(inf, 0), 5}, complex(inf, 0), 0}, {[]complex128{5, complex(inf, 0), 7}, complex(inf, 0), 1}, {[]complex128{complex(inf, 0), complex(0, inf)}, 0, 0},
	} {
		if got, e := plane.Nearest(c.l, c.z); got != c.want || e != api.OK {
			t.Errorf("Nearest(%v, %v) = %d, %v, want %d", c.l, c.z, got, e, c.want)
		}
	}
	// Each place of a list may be told, up to the last one.
	for place := range 1024 {
		l := repeated(9+9i, 1024)
		l[place] = 8
		if got, e := plane.Nearest(l, 0); got != place || e != api.OK {
			t.Fatalf("Nearest = %d, %v, want %d", got, e, place)
		}
	}
}

// minusZeroPoint is the point both of whose parts are noughts with a sign.
func minusZeroPoint() complex128 { return complex(minusZero(), minusZero()) }

func TestNearestByChance(t *testing.T) {
	r := rand.New(rand.NewSource(138))
	edges := points()
	for i := range 3000 {
		l := make([]complex128, 1+r.Intn(20))
		z := complex(float64(r.Intn(5)-2), float64(r.Intn(5)-2))
		for j := range l {
			l[j] = complex(float64(r.Intn(9)-4), float64(r.Intn(9)-4))
			if i%2 == 0 && r.Intn(2) == 0 {
				l[j] = edges[r.Intn(len(edges))]
			}
		}
		if i%3 == 0 {
			z = edges[r.Intn(len(edges))]
		}
		if got, e := plane.Nearest(l, z); e != api.OK || got != nearestOf(l, z) {
			t.Fatalf("Nearest(%v, %v) = %d, %v, want %d", l, z, got, e, nearestOf(l, z))
		}
	}
}
