package plane_test

import (
	"math"
	"math/big"
	"math/rand"
	"slices"
	"testing"

	"clepsydra/plane"
)

// minusZero is the 0 that has a sign.
func minusZero() float64 { return math.Copysign(0, -1) }

// floats are edges of the floats: both noughts, the least and the greatest of each kind, what is no number, and some whose squares leave their bounds.
func floats() []float64 {
	return []float64{
		0, minusZero(), 1, -1, 2, 0.1, -0.5, 3, 1 << 53, 1<<53 + 2, -(1 << 62), math.SmallestNonzeroFloat64, -math.SmallestNonzeroFloat64, 0x1p-1022, 0x1p-540, 0x1p-537, -0x1p511, 0x1.8p511, 0x1p512,
		math.MaxFloat64, -math.MaxFloat64, math.Inf(1), math.Inf(-1), math.NaN(),
	}
}

// points are points of all of these.
func points() []complex128 {
	var l []complex128
	for _, re := range floats() {
		for _, im := range floats() {
			l = append(l, complex(re, im))
		}
	}
	return l
}

// isFinite tells whether a float is a number, and not without bound.
func isFinite(x float64) bool { return !math.IsNaN(x) && !math.IsInf(x, 0) }

// isFinitePoint tells the same of both parts.
func isFinitePoint(z complex128) bool { return isFinite(real(z)) && isFinite(imag(z)) }

// anyFloat is a float by chance, with an exponent between -most and most.
func anyFloat(r *rand.Rand, most int) float64 {
	return math.Ldexp(r.Float64()*2-1, r.Intn(2*most+1)-most)
}

// anyPoints are n points by chance; those of a list are mostly alike in size.
func anyPoints(r *rand.Rand, n, most int) []complex128 {
	near := 1 + r.Intn(most)
	l := make([]complex128, n)
	for i := range l {
		l[i] = complex(anyFloat(r, near), anyFloat(r, near))
	}
	return l
}

// alike tells whether two floats have the same bits, or are both no number.
func alike(a, b float64) bool {
	return math.Float64bits(a) == math.Float64bits(b) || math.IsNaN(a) && math.IsNaN(b)
}

// alikePoints tells it of both parts.
func alikePoints(a, b complex128) bool {
	return alike(real(a), real(b)) && alike(imag(a), imag(b))
}

// rounded is the float that is nearest to a fraction: of two just as near the even one, without bound what is too great.
func rounded(x *big.Rat) float64 {
	f, _ := x.Float64()
	return f
}

// fraction is a finite float as a fraction.
func fraction(x float64) *big.Rat { return new(big.Rat).SetFloat64(x) }

// sumOf, lessOf, timesOf, byOf are what two finite floats make, rounded once. (The sign of a 0 is not told so.)
func sumOf(a, b float64) float64   { return rounded(new(big.Rat).Add(fraction(a), fraction(b))) }
func lessOf(a, b float64) float64  { return rounded(new(big.Rat).Sub(fraction(a), fraction(b))) }
func timesOf(a, b float64) float64 { return rounded(new(big.Rat).Mul(fraction(a), fraction(b))) }
func byOf(a, b float64) float64    { return rounded(new(big.Rat).Quo(fraction(a), fraction(b))) }

// totalOf is the sum of points, operation by operation.
func totalOf(l []complex128) complex128 {
	var re, im float64
	for _, z := range l {
		re, im = sumOf(re, real(z)), sumOf(im, imag(z))
	}
	return complex(re, im)
}

// meanOf is the mean of points, operation by operation.
func meanOf(l []complex128) complex128 {
	sum, n := totalOf(l), float64(len(l))
	return complex(byOf(real(sum), n), byOf(imag(sum), n))
}

// spreadOf is the spread of points, operation by operation.
func spreadOf(l []complex128) float64 {
	mean, sum := meanOf(l), 0.0
	for _, z := range l {
		re, im := lessOf(real(z), real(mean)), lessOf(imag(z), imag(mean))
		sum = sumOf(sum, sumOf(timesOf(re, re), timesOf(im, im)))
	}
	return byOf(sum, float64(len(l)))
}

// farOf is how far points lie apart, of which the parts may be no numbers.
func farOf(a, b complex128) float64 {
	re, im := worthOfLess(real(a), real(b)), worthOfLess(imag(a), imag(b))
	if !math.IsNaN(re) && !math.IsNaN(im) && re > im {
		return re
	}
	return im
}

// worthOfLess is the worth of a difference.
func worthOfLess(a, b float64) float64 {
	switch {
	case math.IsNaN(a) || math.IsNaN(b) || math.IsInf(a, 1) && math.IsInf(b, 1) || math.IsInf(a, -1) && math.IsInf(b, -1):
		return math.NaN()
	case !isFinite(a) || !isFinite(b):
		return math.Inf(1)
	}
	return rounded(new(big.Rat).Abs(new(big.Rat).Sub(fraction(a), fraction(b))))
}

// nearestOf is the place of the nearest point: the first one of which no later one lies less far, as long as there is such a one.
func nearestOf(l []complex128, z complex128) int {
	for place := 0; ; {
		next := slices.IndexFunc(l[place:], func(p complex128) bool { return farOf(p, z) < farOf(l[place], z) })
		if next < 0 {
			return place
		}
		place += next
	}
}

// wantBits tells if a float hasn't the bits that it should have.
func wantBits(t *testing.T, what string, got, want float64) {
	t.Helper()
	if !alike(got, want) {
		t.Errorf("%s = %g (%x), want %g (%x)", what, got, math.Float64bits(got), want, math.Float64bits(want))
	}
}

// wantPoint tells it of both parts.
func wantPoint(t *testing.T, what string, got, want complex128) {
	t.Helper()
	wantBits(t, what+": the real part", real(got), real(want))
	wantBits(t, what+": the imaginary part", imag(got), imag(want))
}

// repeated is a point n times.
func repeated(z complex128, n int) []complex128 { return slices.Repeat([]complex128{z}, n) }

// anyWhole is a point with whole parts below 2^40, by chance.
func anyWhole(r *rand.Rand) complex128 {
	most := int64(1) << (1 + r.Intn(40))
	return plane.Point(r.Int63n(2*most-1)-most+1, r.Int63n(2*most-1)-most+1)
}
