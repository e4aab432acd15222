package choose_test

import (
	"math"
	"math/big"
	"math/rand"
	"slices"
	"testing"

	"clepsydra/api"
	"clepsydra/choose"
)

// most is how far an offset or a dist may go.
const most = int64(1) << 40

// has tells whether an interval has a point.
func has(s api.Span, x int64) bool { return s.Lo <= x && x <= s.Hi }

// coverOf is how many intervals have a point, word by word.
func coverOf(l []api.Span, x int64) int {
	n := 0
	for _, s := range l {
		if has(s, x) {
			n++
		}
	}
	return n
}

// regionOf is the region of intervals, word by word. Where the number of intervals that have a point changes there is an end: of the majority's points the least one is where one begins, the greatest one where one ends.
func regionOf(l []api.Span) (lo, hi int64, e api.Errno) {
	if len(l) > 64 {
		return 0, 0, api.ErrArg
	}
	for _, s := range l {
		if s.Lo > s.Mid || s.Mid > s.Hi {
			return 0, 0, api.ErrArg
		}
	}
	var points []int64
	for _, s := range l {
		for _, x := range []int64{s.Lo, s.Hi} {
			if coverOf(l, x) > len(l)/2 {
				points = append(points, x)
			}
		}
	}
	if len(points) == 0 {
		return 0, 0, api.ErrMajority
	}
	return slices.Min(points), slices.Max(points), api.OK
}

// surviveOf is the places of those whose middle is in the region, word by word.
func surviveOf(l []api.Span) ([]int, api.Errno) {
	lo, hi, e := regionOf(l)
	var places []int
	for i, s := range l {
		if e == api.OK && has(api.Span{Lo: lo, Hi: hi}, s.Mid) {
			places = append(places, i)
		}
	}
	return places, e
}

// isWrongOf tells whether offsets and dists may not be, word by word.
func isWrongOf(offsets, dists []int64) bool {
	if len(offsets) != len(dists) || len(offsets) > 64 {
		return true
	}
	for i := range offsets {
		if offsets[i] < -most || offsets[i] > most || dists[i] < 0 || dists[i] > most {
			return true
		}
	}
	return false
}

// clusterOf is what is left, word by word, with numbers without bounds; it strikes from a list of marks.
func clusterOf(offsets, dists []int64, least int) ([]int, api.Errno) {
	if isWrongOf(offsets, dists) || least < 1 {
		return nil, api.ErrArg
	}
	struck := make([]bool, len(offsets))
	for {
		var left []int
		for i := range offsets {
			if !struck[i] {
				left = append(left, i)
			}
		}
		if len(left) <= least {
			return left, api.OK
		}
		worst, of, nearest := big.NewInt(-1), 0, big.NewInt(math.MaxInt64)
		for _, i := range left {
			sum := new(big.Int)
			for _, j := range left {
				d := new(big.Int).Sub(big.NewInt(offsets[i]), big.NewInt(offsets[j]))
				sum.Add(sum, d.Abs(d))
			}
			if sum.Cmp(worst) >= 0 {
				worst, of = sum, i
			}
			if d := big.NewInt(dists[i]); d.Cmp(nearest) < 0 {
				nearest = d
			}
		}
		if worst.Cmp(nearest.Mul(nearest, big.NewInt(int64(len(left)-1)))) <= 0 {
			return left, api.OK
		}
		struck[of] = true
	}
}

// combineOf is the mean by weights, word by word, with numbers without bounds.
func combineOf(offsets, dists []int64) (int64, api.Errno) {
	if isWrongOf(offsets, dists) {
		return 0, api.ErrArg
	}
	if len(offsets) == 0 {
		return 0, api.ErrNone
	}
	sum, weights := new(big.Int), new(big.Int)
	for i := range offsets {
		parts := new(big.Int).Div(big.NewInt(dists[i]), big.NewInt(65536))
		w := new(big.Int).Div(big.NewInt(65536), parts.Add(parts, big.NewInt(1)))
		if w.Sign() == 0 {
			w = big.NewInt(1)
		}
		sum.Add(sum, new(big.Int).Mul(big.NewInt(offsets[i]), w))
		weights.Add(weights, w)
	}
	// Div rounds down, for what it parts by is above 0.
	return sum.Div(sum, weights).Int64(), api.OK
}

// wantSpans tells if something else is answered of intervals than should be.
func wantSpans(t *testing.T, l []api.Span) {
	t.Helper()
	lo, hi, e := regionOf(l)
	if a, b, err := choose.Region(l); a != lo || b != hi || err != e {
		t.Fatalf("Region(%v) = %d, %d, %v, want %d, %d, %v", l, a, b, err, lo, hi, e)
	}
	places, e := surviveOf(l)
	if got, err := choose.Survive(l); !slices.Equal(got, places) || err != e {
		t.Fatalf("Survive(%v) = %v, %v, want %v, %v", l, got, err, places, e)
	}
	for _, s := range l[:min(len(l), 64)] {
		for _, x := range []int64{s.Lo, s.Mid, s.Hi, s.Lo - 1, s.Hi + 1} {
			if got := choose.Cover(l, x); got != coverOf(l, x) {
				t.Fatalf("Cover(%v, %d) = %d, want %d", l, x, got, coverOf(l, x))
			}
		}
	}
}

// wantOffsets tells if something else is answered of offsets and dists than should be.
func wantOffsets(t *testing.T, offsets, dists []int64, leasts ...int) {
	t.Helper()
	for _, least := range leasts {
		left, e := clusterOf(offsets, dists, least)
		if got, err := choose.Cluster(offsets, dists, least); !slices.Equal(got, left) || err != e {
			t.Fatalf("Cluster(%v, %v, %d) = %v, %v, want %v, %v", offsets, dists, least, got, err, left, e)
		}
	}
	mean, e := combineOf(offsets, dists)
	if got, err := choose.Combine(offsets, dists); got != mean || err != e {
		t.Fatalf("Combine(%v, %v) = %d, %v, want %d, %v", offsets, dists, got, err, mean, e)
	}
}

// edges are offsets and ends at bounds, and near them.
func edges() []int64 {
	l := []int64{0, 1, 2, 65535, 65536, 65537, most - 1, most, 1 << 62, math.MaxInt64 - 1, math.MaxInt64}
	for _, n := range slices.Clone(l) {
		l = append(l, -n)
	}
	return append(l, math.MinInt64)
}

// anySpan is an interval that may be, by chance: of a few small numbers, so that ends are often the same, of edges, or of any numbers.
func anySpan(r *rand.Rand, sort int) api.Span {
	l := make([]int64, 3)
	for i := range l {
		switch sort {
		case 0:
			l[i] = r.Int63n(20)
		case 1:
			l[i] = edges()[r.Intn(len(edges()))]
		default:
			l[i] = int64(r.Uint64()) >> r.Intn(64)
		}
	}
	slices.Sort(l)
	return api.Span{Lo: l[0], Mid: l[1], Hi: l[2]}
}

// anySpans are intervals that may be, by chance.
func anySpans(r *rand.Rand, n int) []api.Span {
	l, sort := make([]api.Span, n), r.Intn(3)
	for i := range l {
		l[i] = anySpan(r, sort)
	}
	return l
}

// anyOffsets are offsets and dists that may be, by chance.
func anyOffsets(r *rand.Rand, n int) (offsets, dists []int64) {
	width, far := int64(1)<<r.Intn(41), int64(1)<<r.Intn(41)
	for range n {
		offsets = append(offsets, r.Int63n(2*width+1)-width)
		dists = append(dists, r.Int63n(far+1))
	}
	return offsets, dists
}
