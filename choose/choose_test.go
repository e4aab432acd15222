package choose_test

import (
	"math"
	"math/rand"
	"slices"
	"testing"

	"clepsydra/api"
	"clepsydra/choose"
)

// spans are intervals out of threes of numbers.
func spans(l ...int64) []api.Span {
	var all []api.Span
	for ; len(l) > 2; l = l[3:] {
		all = append(all, api.Span{Lo: l[0], Mid: l[1], Hi: l[2]})
	}
	return all
}

// P15.1: Cover, Region, Survive.

func TestCover(t *testing.T) {
	for _, c := range []struct {
		l    []api.Span
		x    int64
		want int
	}{
		{nil, 0, 0}, {spans(0, 2, 4, 2, 4, 6, 3, 5, 9), 2, 2}, {spans(0, 2, 4, 2, 4, 6, 3, 5, 9), 3, 3}, {spans(0, 2, 4, 2, 4, 6, 3, 5, 9), 4, 3}, {spans(0, 2, 4, 2, 4, 6, 3, 5, 9), 5, 2}, {spans(0, 2, 4, 2, 4, 6, 3, 5, 9), 7, 1},
		{spans(0, 2, 4, 2, 4, 6, 3, 5, 9), 0, 1}, {spans(0, 2, 4, 2, 4, 6, 3, 5, 9), -1, 0}, {spans(0, 2, 4, 2, 4, 6, 3, 5, 9), 9, 1}, {spans(0, 2, 4, 2, 4, 6, 3, 5, 9), 10, 0},
		{spans(5, 5, 5), 4, 0}, {spans(5, 5, 5), 5, 1}, {spans(5, 5, 5), 6, 0}, {spans(5, 5, 5, 5, 5, 5), 5, 2},
		{spans(math.MinInt64, 0, math.MaxInt64), math.MinInt64, 1}, {spans(math.MinInt64, 0, math.MaxInt64), math.MaxInt64, 1}, {spans(math.MaxInt64, math.MaxInt64, math.MaxInt64), math.MinInt64, 0},
		// One that may not be has the points that its ends have between them: none, if they are the other way round.
		{spans(9, 5, 0), 5, 0}, {spans(9, 5, 0), 9, 0}, {spans(9, 5, 0), 0, 0}, {spans(0, 99, 9), 5, 1}, {spans(0, -99, 9), 5, 1}, {spans(0, 99, 9), 99, 0},
		// How many there are does not matter.
		{make([]api.Span, 65), 0, 65}, {make([]api.Span, 100000), 0, 100000}, {make([]api.Span, 100000), 1, 0},
	} {
		if got := choose.Cover(c.l, c.x); got != c.want {
			t.Errorf("Cover(%v, %d) = %d, want %d", c.l[:min(len(c.l), 9)], c.x, got, c.want)
		}
	}
}

func TestRegion(t *testing.T) {
	for _, c := range []struct {
		l      []api.Span
		lo, hi int64
		want   api.Errno
	}{
		{spans(0, 2, 4, 2, 4, 6, 3, 5, 9), 2, 6, api.OK}, {spans(1, 2, 3), 1, 3, api.OK}, {spans(5, 5, 5), 5, 5, api.OK}, {nil, 0, 0, api.ErrMajority},
		// Of two just what both have is had by more than half.
		{spans(1, 2, 3, 2, 3, 4), 2, 3, api.OK}, {spans(1, 2, 3, 4, 5, 6), 0, 0, api.ErrMajority}, {spans(1, 2, 3, 3, 5, 6), 3, 3, api.OK}, {spans(3, 5, 6, 1, 2, 3), 3, 3, api.OK}, {spans(1, 2, 3, 1, 2, 3), 1, 3, api.OK},
		{spans(1, 1, 1, 1, 1, 1), 1, 1, api.OK}, {spans(1, 1, 1, 2, 2, 2), 0, 0, api.ErrMajority}, {spans(1, 1, 1, 2, 2, 2, 3, 3, 3), 0, 0, api.ErrMajority}, {spans(0, 0, 9, 0, 0, 9, 20, 20, 29, 20, 20, 29), 0, 0, api.ErrMajority},
		{spans(0, 0, 9, 0, 0, 9, 9, 20, 29, 20, 20, 29), 9, 9, api.OK}, {spans(0, 0, 9, 0, 0, 9, 8, 20, 29, 20, 20, 29), 8, 9, api.OK},
		// The majority has a gap, which the region has not.
		{spans(0, 5, 10, 0, 1, 2, 8, 9, 10), 0, 10, api.OK}, {spans(8, 9, 10, 0, 1, 2, 0, 5, 10), 0, 10, api.OK}, {spans(0, 50, 100, 3, 3, 3, 40, 40, 40), 3, 40, api.OK}, {spans(0, 0, 1, 0, 50, 100, 1, 1, 2, 70, 75, 80), 1, 1, api.OK}, {spans(0, 0, 3, 0, 0, 3, 0, 9, 9, 6, 6, 9, 6, 6, 9), 0, 9, api.OK},
		// A point at which one ends and another begins.
		{spans(0, 0, 5, 5, 5, 9, 5, 5, 5), 5, 5, api.OK}, {spans(0, 0, 5, 5, 5, 9, 6, 6, 9), 5, 9, api.OK}, {spans(0, 0, 5, 5, 5, 9, 9, 9, 9), 5, 9, api.OK}, {spans(0, 0, 5, 6, 6, 9, 10, 10, 11), 0, 0, api.ErrMajority},
		{spans(-9, -5, -1, -4, -4, -4), -4, -4, api.OK}, {spans(-9, -5, -1, -1, 0, 9, -1, 5, 5), -1, 5, api.OK},
		{spans(math.MinInt64, 0, math.MaxInt64), math.MinInt64, math.MaxInt64, api.OK}, {spans(math.MinInt64, math.MinInt64, math.MinInt64), math.MinInt64, math.MinInt64, api.OK}, {spans(math.MaxInt64, math.MaxInt64, math.MaxInt64), math.MaxInt64, math.MaxInt64, api.OK},
		{spans(math.MinInt64, math.MinInt64, 0, 0, 0, math.MaxInt64), 0, 0, api.OK}, {spans(math.MinInt64, 0, math.MaxInt64, math.MinInt64, -5, -5, 7, 7, math.MaxInt64), math.MinInt64, math.MaxInt64, api.OK}, {spans(0, 0, 0, 0, 0, 0, 1, 1, 1), 0, 0, api.OK},
		// Those that may not be.
		{spans(1, 0, 3), 0, 0, api.ErrArg}, {spans(1, 4, 3), 0, 0, api.ErrArg}, {spans(3, 2, 1), 0, 0, api.ErrArg}, {spans(3, 3, 1), 0, 0, api.ErrArg}, {spans(3, 1, 1), 0, 0, api.ErrArg}, {spans(1, 2, 3, 1, 2, 3, 1, 2, 3, 1, 4, 3), 0, 0, api.ErrArg}, {spans(1, 0, 3, 1, 2, 3, 1, 2, 3), 0, 0, api.ErrArg},
		{spans(1, 1, 1, 5, 5, 5, 9, 9, 8), 0, 0, api.ErrArg}, {spans(math.MaxInt64, 0, math.MinInt64), 0, 0, api.ErrArg}, {spans(math.MinInt64, math.MinInt64, math.MinInt64, math.MinInt64, math.MaxInt64, 0), 0, 0, api.ErrArg},
	} {
		if lo, hi, e := choose.Region(c.l); lo != c.lo || hi != c.hi || e != c.want {
			t.Errorf("Region(%v) = %d, %d, %v, want %d, %d, %v", c.l, lo, hi, e, c.lo, c.hi, c.want)
		}
		wantSpans(t, c.l)
	}
}

func TestSurvive(t *testing.T) {
	for _, c := range []struct {
		l      []api.Span
		places []int
		want   api.Errno
	}{
		{nil, nil, api.ErrMajority}, {spans(0, 2, 4, 2, 4, 6, 3, 5, 9), []int{0, 1, 2}, api.OK}, {spans(0, 1, 4, 2, 4, 6, 3, 7, 9), []int{1}, api.OK}, {spans(0, 2, 4, 2, 4, 6, 3, 6, 9), []int{0, 1, 2}, api.OK}, {spans(5, 5, 5), []int{0}, api.OK},
		// There is a region, but no middle lies in it.
		{spans(0, 0, 5, 4, 9, 9), nil, api.OK}, {spans(0, 3, 5, 4, 6, 9), nil, api.OK}, {spans(0, 4, 5, 4, 6, 9), []int{0}, api.OK}, {spans(0, 5, 5, 4, 6, 9), []int{0}, api.OK}, {spans(0, 3, 5, 4, 5, 9), []int{1}, api.OK},
		// A middle in the region's gap survives, though its interval is far off the majority's points.
		{spans(0, 5, 10, 0, 1, 2, 8, 9, 10, 4, 6, 6, 0, 0, 10), []int{0, 1, 2, 3, 4}, api.OK}, {spans(0, 1, 2, 50, 60, 70, 0, 1, 2), []int{0, 2}, api.OK}, {spans(50, 60, 70, 0, 1, 2, 0, 1, 2), []int{1, 2}, api.OK},
		{spans(1, 2, 3, 4, 5, 6), nil, api.ErrMajority}, {spans(1, 2, 3, 1, 4, 3), nil, api.ErrArg}, {spans(1, 1, 1, 5, 5, 5, 9, 9, 8), nil, api.ErrArg}, {spans(math.MinInt64, math.MinInt64, math.MaxInt64, math.MinInt64, math.MaxInt64, math.MaxInt64), []int{0, 1}, api.OK},
	} {
		if got, e := choose.Survive(c.l); !slices.Equal(got, c.places) || e != c.want {
			t.Errorf("Survive(%v) = %v, %v, want %v, %v", c.l, got, e, c.places, c.want)
		}
		wantSpans(t, c.l)
	}
}

// At MaxSpans intervals, and one beyond.
func TestMostSpans(t *testing.T) {
	r := rand.New(rand.NewSource(151))
	for n, want := range map[int]api.Errno{63: api.OK, 64: api.OK, 65: api.ErrArg, 66: api.ErrArg, 1000: api.ErrArg, 1 << 15: api.ErrArg} {
		l := make([]api.Span, n)
		for i := range l {
			l[i] = api.Span{Lo: -r.Int63n(9), Mid: 0, Hi: r.Int63n(9)}
		}
		if _, _, e := choose.Region(l); e != want {
			t.Errorf("Region of %d: %v", n, e)
		}
		if got, e := choose.Survive(l); e != want || want == api.OK && len(got) != n {
			t.Errorf("Survive of %d: %v, %v", n, got, e)
		}
		wantSpans(t, l)
	}
	// Half of 64 is not more than half, half of 63 and a half is.
	for ins, want := range map[int]api.Errno{31: api.ErrMajority, 32: api.ErrMajority, 33: api.OK} {
		l := make([]api.Span, 64)
		for i := ins; i < len(l); i++ {
			l[i] = api.Span{Lo: int64(i), Mid: int64(i), Hi: int64(i)}
		}
		if lo, hi, e := choose.Region(l); lo != 0 || hi != 0 || e != want {
			t.Errorf("Region, %d of 64 at 0: %d, %d, %v", ins, lo, hi, e)
		}
		if lo, hi, e := choose.Region(l[:63]); lo != 0 || hi != 0 || (e == api.OK) != (ins > 31) {
			t.Errorf("Region, %d of 63 at 0: %d, %d, %v", ins, lo, hi, e)
		}
	}
}

func TestSpansByChance(t *testing.T) {
	r := rand.New(rand.NewSource(152))
	for range 6000 {
		l := anySpans(r, r.Intn(1<<r.Intn(7)+1))
		wantSpans(t, l)
		if len(l) > 0 {
			s := &l[r.Intn(len(l))]
			switch r.Intn(3) {
			case 0:
				s.Lo = s.Mid + 1 + r.Int63n(3)
			case 1:
				s.Hi = s.Mid - 1 - r.Int63n(3)
			default:
				s.Lo, s.Hi = s.Hi, s.Lo
			}
			wantSpans(t, l)
		}
	}
}

// Of small numbers, held against all their points one by one.
func TestAllPoints(t *testing.T) {
	r := rand.New(rand.NewSource(153))
	for range 3000 {
		l := anySpans(r, 0)
		for range r.Intn(9) {
			l = append(l, anySpan(r, 0))
		}
		var points []int64
		for x := int64(-2); x < 25; x++ {
			if got := choose.Cover(l, x); got != coverOf(l, x) {
				t.Fatalf("Cover(%v, %d) = %d", l, x, got)
			}
			if 2*coverOf(l, x) > len(l) {
				points = append(points, x)
			}
		}
		lo, hi, e := choose.Region(l)
		if len(points) == 0 && (lo != 0 || hi != 0 || e != api.ErrMajority) || len(points) > 0 && (lo != points[0] || hi != points[len(points)-1] || e != api.OK) {
			t.Fatalf("Region(%v) = %d, %d, %v, its majority is %v", l, lo, hi, e, points)
		}
	}
}

// P15.2: Cluster.

func TestCluster(t *testing.T) {
	for _, c := range []struct {
		offsets, dists []int64
		least          int
		want           []int
	}{
		{nil, nil, 1, nil}, {[]int64{5}, []int64{0}, 1, []int{0}}, {[]int64{1, 2, 100}, []int64{0, 0, 0}, 2, []int{0, 1}}, {[]int64{1, 2, 100}, []int64{0, 0, 0}, 3, []int{0, 1, 2}}, {[]int64{1, 2, 100}, []int64{0, 0, 0}, 4, []int{0, 1, 2}}, {[]int64{1, 2, 100}, []int64{0, 0, 0}, math.MaxInt, []int{0, 1, 2}},
		// Of two that are as strange the last one is struck; of none that are strange, none.
		{[]int64{1, 2, 100}, []int64{0, 0, 0}, 1, []int{0}}, {[]int64{2, 1}, []int64{0, 0}, 1, []int{0}}, {[]int64{5, 5, 5}, []int64{0, 0, 0}, 1, []int{0, 1, 2}}, {[]int64{5, 5, 6, 6}, []int64{0, 0, 0, 0}, 1, []int{0, 1}}, {[]int64{100, 2, 1}, []int64{0, 0, 0}, 1, []int{1}}, {[]int64{-50, 50, 0}, []int64{0, 0, 0}, 2, []int{0, 2}}, {[]int64{50, -50, 0}, []int64{0, 0, 0}, 2, []int{0, 2}},
		{[]int64{0, 10, 5}, []int64{0, 0, 0}, 1, []int{0}}, {[]int64{0, 10, 4}, []int64{0, 0, 0}, 1, []int{0}}, {[]int64{0, 10, 6}, []int64{0, 0, 0}, 1, []int{1}},
		// What is just as strange as the least dist, times one less than their number, stays: here 3 times 33 is 99, and the strangest one's is 98 and 99.
		{[]int64{1, 2, 100}, []int64{98, 98, 98}, 1, []int{0, 1}}, {[]int64{1, 2, 100}, []int64{99, 98, 200}, 1, []int{0, 1}}, {[]int64{1, 2, 100}, []int64{99, 99, 99}, 1, []int{0, 1, 2}}, {[]int64{1, 1, 100}, []int64{99, 99, 99}, 1, []int{0, 1, 2}}, {[]int64{1, 1, 100}, []int64{200, 98, 99}, 1, []int{0, 1}},
		{[]int64{0, 7}, []int64{7, 7}, 1, []int{0, 1}}, {[]int64{0, 7}, []int64{6, 7}, 1, []int{0}}, {[]int64{0, 7}, []int64{7, 6}, 1, []int{0}}, {[]int64{0, 8}, []int64{7, 7}, 1, []int{0}}, {[]int64{7, 0}, []int64{7, 7}, 1, []int{0, 1}},
		// The one that is struck counts among those whose dist is the least, and with it that goes.
		{[]int64{0, 5, 100}, []int64{10, 10, 0}, 1, []int{0, 1}}, {[]int64{0, 5, 100}, []int64{4, 10, 0}, 1, []int{0}}, {[]int64{0, 5, 100}, []int64{10, 4, 0}, 1, []int{0}}, {[]int64{0, 5, 100}, []int64{1000, 1000, 97}, 1, []int{0, 1}}, {[]int64{0, 5, 100}, []int64{1000, 1000, 98}, 1, []int{0, 1, 2}},
		{[]int64{1, 2, 3, 100, 200, -300}, []int64{2, 2, 2, 2, 2, 2}, 1, []int{0, 1, 2}}, {[]int64{1, 2, 3, 100, 200, -300}, []int64{2, 2, 2, 2, 2, 2}, 5, []int{0, 1, 2, 3, 4}}, {[]int64{1, 2, 3, 100, 200, -300}, []int64{2, 2, 2, 2, 2, 2}, 4, []int{0, 1, 2, 3}},
		{[]int64{most, -most}, []int64{most, most}, 1, []int{0}}, {[]int64{most, -most, 0}, []int64{most, most, most}, 1, []int{0, 2}}, {[]int64{most, 0}, []int64{most, most}, 1, []int{0, 1}}, {[]int64{most, -1}, []int64{most, most}, 1, []int{0}},
	} {
		if got, e := choose.Cluster(c.offsets, c.dists, c.least); e != api.OK || !slices.Equal(got, c.want) {
			t.Errorf("Cluster(%v, %v, %d) = %v, %v, want %v", c.offsets, c.dists, c.least, got, e, c.want)
		}
		wantOffsets(t, c.offsets, c.dists, c.least, 1, 2, 3)
	}
}

func TestClusterWrong(t *testing.T) {
	for _, least := range []int{0, -1, math.MinInt} {
		for n := range 4 {
			if got, e := choose.Cluster(make([]int64, n), make([]int64, n), least); len(got) != 0 || e != api.ErrArg {
				t.Errorf("Cluster of %d, at least %d = %v, %v", n, least, got, e)
			}
		}
	}
}

// What is wrong for Cluster is for Combine, too.
func TestOffsetsWrong(t *testing.T) {
	for _, c := range []struct {
		offsets, dists []int64
		want           api.Errno
	}{
		{[]int64{1}, nil, api.ErrArg}, {nil, []int64{1}, api.ErrArg}, {[]int64{1, 2}, []int64{1}, api.ErrArg}, {[]int64{1}, []int64{1, 2}, api.ErrArg}, {[]int64{1, 2}, []int64{1, 2, 3}, api.ErrArg},
		{[]int64{most}, []int64{0}, api.OK}, {[]int64{-most}, []int64{0}, api.OK}, {[]int64{most + 1}, []int64{0}, api.ErrArg}, {[]int64{-most - 1}, []int64{0}, api.ErrArg}, {[]int64{0}, []int64{most}, api.OK}, {[]int64{0}, []int64{most + 1}, api.ErrArg}, {[]int64{0}, []int64{-1}, api.ErrArg}, {[]int64{0}, []int64{-most}, api.ErrArg},
		{[]int64{math.MinInt64}, []int64{0}, api.ErrArg}, {[]int64{math.MaxInt64}, []int64{0}, api.ErrArg}, {[]int64{0}, []int64{math.MinInt64}, api.ErrArg}, {[]int64{0}, []int64{math.MaxInt64}, api.ErrArg},
		{[]int64{0, 0, most + 1}, []int64{0, 0, 0}, api.ErrArg}, {[]int64{0, 0, 0}, []int64{0, 0, -1}, api.ErrArg}, {[]int64{0, most + 1, 0}, []int64{0, 0, 0}, api.ErrArg}, {[]int64{0, 0, 0}, []int64{-1, 0, 0}, api.ErrArg},
		{make([]int64, 64), make([]int64, 64), api.OK}, {make([]int64, 65), make([]int64, 65), api.ErrArg}, {make([]int64, 65), make([]int64, 64), api.ErrArg}, {make([]int64, 64), make([]int64, 65), api.ErrArg}, {make([]int64, 1<<20), make([]int64, 1<<20), api.ErrArg},
	} {
		got, e := choose.Cluster(c.offsets, c.dists, 1)
		mean, err := choose.Combine(c.offsets, c.dists)
		if e != c.want || err != c.want {
			t.Errorf("of %d, %d: %v, %v, want %v", len(c.offsets), len(c.dists), e, err, c.want)
		}
		if c.want != api.OK && (len(got) != 0 || mean != 0) {
			t.Errorf("of %d, %d: %v, %d with an error", len(c.offsets), len(c.dists), got, mean)
		}
		wantOffsets(t, c.offsets, c.dists, -1, 0, 1, 2, 64, 65)
	}
}

// P15.3: Combine.

func TestCombine(t *testing.T) {
	if got, e := choose.Combine(nil, []int64{}); got != 0 || e != api.ErrNone {
		t.Errorf("Combine of none = %d, %v", got, e)
	}
	for _, c := range []struct {
		offsets, dists []int64
		want           int64
	}{
		{[]int64{10, 20}, []int64{0, 0}, 15}, {[]int64{7}, []int64{0}, 7}, {[]int64{7}, []int64{most}, 7}, {[]int64{-7}, []int64{12345}, -7}, {[]int64{0, 0}, []int64{5, most}, 0},
		// Rounded down, below 0 too.
		{[]int64{0, 1}, []int64{0, 0}, 0}, {[]int64{0, -1}, []int64{0, 0}, -1}, {[]int64{-1, 0, 0}, []int64{0, 0, 0}, -1}, {[]int64{1, 0, 0}, []int64{0, 0, 0}, 0}, {[]int64{-1, -2}, []int64{0, 0}, -2}, {[]int64{-2, -4}, []int64{0, 0}, -3}, {[]int64{1, 1, 0}, []int64{0, 0, 0}, 0},
		// Weights: 65536 to 65535, half of it from 65536 on, a third from 131072 on, 1 from 32768 times 65536 on, and never less.
		{[]int64{0, 131072}, []int64{0, 65535}, 65536}, {[]int64{0, 3}, []int64{0, 65536}, 1}, {[]int64{0, 3}, []int64{0, 131071}, 1}, {[]int64{0, 87381}, []int64{0, 131072}, 21845}, {[]int64{0, 65536 + 21845}, []int64{0, 131072}, 21845}, {[]int64{0, 65536 + 21844}, []int64{0, 131072}, 21844},
		{[]int64{0, 65538}, []int64{0, 32767*65536 - 1}, 2}, {[]int64{0, 65537}, []int64{0, 65535 * 65536}, 1}, {[]int64{0, 65536}, []int64{0, 65535 * 65536}, 0}, {[]int64{0, 65537}, []int64{0, most}, 1}, {[]int64{0, 65536}, []int64{0, most}, 0}, {[]int64{0, 65537}, []int64{0, 65536 * 65536}, 1}, {[]int64{0, 65537}, []int64{0, 65536 * 65535 / 2}, 1},
		{[]int64{0, 32769}, []int64{0, 65536*32767 + 65535}, 1}, {[]int64{0, 32768}, []int64{0, 65536*32767 + 65535}, 0}, {[]int64{0, 65537}, []int64{0, 65536 * 32768}, 1}, {[]int64{0, 65536}, []int64{0, 65536 * 32768}, 0},
		{[]int64{most, -most}, []int64{0, 0}, 0}, {[]int64{most, most}, []int64{0, most}, most}, {[]int64{-most, -most}, []int64{0, most}, -most},
	} {
		if got, e := choose.Combine(c.offsets, c.dists); got != c.want || e != api.OK {
			t.Errorf("Combine(%v, %v) = %d, %v, want %d", c.offsets, c.dists, got, e, c.want)
		}
		wantOffsets(t, c.offsets, c.dists, 1, 2)
	}
	// The greatest sums that there are.
	l := make([]int64, 64)
	for i := range l {
		l[i] = most
	}
	for range 2 {
		if got, e := choose.Combine(l, make([]int64, 64)); got != l[0] || e != api.OK {
			t.Errorf("Combine of 64 times %d = %d, %v", l[0], got, e)
		}
		for i := range l {
			l[i] = -most
		}
	}
}

func TestOffsetsByChance(t *testing.T) {
	r := rand.New(rand.NewSource(154))
	for range 4000 {
		offsets, dists := anyOffsets(r, r.Intn(1<<r.Intn(6)+1))
		wantOffsets(t, offsets, dists, r.Intn(len(offsets)+2), 1)
	}
	for range 30 {
		offsets, dists := anyOffsets(r, 64)
		wantOffsets(t, offsets, dists, 1, 2, 10, 63)
	}
	// Of many that are as strange.
	for range 3000 {
		offsets, dists := make([]int64, 1+r.Intn(12)), make([]int64, 0)
		for i := range offsets {
			offsets[i] = r.Int63n(4)
			dists = append(dists, r.Int63n(3))
		}
		wantOffsets(t, offsets, dists, 1, 2, 3, 4)
	}
}
