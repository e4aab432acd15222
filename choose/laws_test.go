package choose_test

import (
	"math"
	"math/rand"
	"slices"
	"testing"

	"clepsydra/api"
	"clepsydra/choose"
	"clepsydra/filter"
	"clepsydra/stamp"
)

// P15.4: a point that more than half of the intervals have lies in the region.
func TestMajorityIsRight(t *testing.T) {
	r := rand.New(rand.NewSource(155))
	for range 3000 {
		right, n := int64(r.Uint64())>>r.Intn(64)/4, 1+r.Intn(64)
		l := anySpans(r, n)
		// More than half have the right point, somewhere.
		for _, i := range r.Perm(n)[:n/2+1+r.Intn(n-n/2)] {
			l[i].Lo, l[i].Hi = right-r.Int63()>>1>>r.Intn(62), right+r.Int63()>>1>>r.Intn(62)
			l[i].Mid = right
		}
		lo, hi, e := choose.Region(l)
		if e != api.OK || right < lo || right > hi {
			t.Fatalf("Region(%v) = %d, %d, %v, more than half have %d", l, lo, hi, e, right)
		}
	}
	for range 3000 {
		l := anySpans(r, r.Intn(65))
		lo, hi, e := choose.Region(l)
		for range 20 {
			x := int64(r.Uint64()) >> r.Intn(64)
			if len(l) > 0 && r.Intn(2) == 0 {
				x = l[r.Intn(len(l))].Mid
			}
			if 2*choose.Cover(l, x) > len(l) && (e != api.OK || x < lo || x > hi) {
				t.Fatalf("Region(%v) = %d, %d, %v, more than half have %d", l, lo, hi, e, x)
			}
		}
	}
}

// P5: if more than half of the clocks are right, the right offset is in the region, however their packets are delayed; over ways that take equally long it is told exactly.
func TestClocks(t *testing.T) {
	r := rand.New(rand.NewSource(150))
	for i := range 3000 {
		n, right, equal := 1+r.Intn(8), r.Int63n(1<<38)-1<<37, i%2 == 0
		l := make([]api.Span, n)
		var offsets, dists []int64
		for place, by := range r.Perm(n) {
			// Less than half tell what they want to.
			said := right
			if 2*by >= n+1 {
				said = int64(r.Uint64()) >> (24 + r.Intn(40))
			}
			s := exchanged(r, said, equal)
			off := filter.Distance(s, 1<<40)
			l[place] = api.Span{Lo: s.Offset - off, Mid: s.Offset, Hi: s.Offset + off}
			if said == right {
				offsets, dists = append(offsets, s.Offset), append(dists, off)
			}
		}
		lo, hi, e := choose.Region(l)
		if e != api.OK || right < lo || right > hi {
			t.Fatalf("Region(%v) = %d, %d, %v, the right offset is %d", l, lo, hi, e, right)
		}
		if got, e := choose.Combine(offsets, dists); equal && (got != right || e != api.OK) {
			t.Fatalf("Combine(%v, %v) = %d, %v, the right offset is %d", offsets, dists, got, e, right)
		}
		if _, e := choose.Survive(l); e != api.OK {
			t.Fatalf("Survive(%v): %v", l, e)
		}
	}
}

// exchanged is what an exchange with a clock tells that is ahead by o, the way back as long as the way there, or not.
func exchanged(r *rand.Rand, o int64, equal bool) api.Sample {
	there, back := r.Int63n(1<<34), r.Int63n(1<<34)
	if equal {
		back = there
	}
	sent := r.Uint64()
	came := stamp.Move(sent, there+o)
	left := stamp.Move(came, r.Int63n(1<<32))
	heard := stamp.Move(left, back-o)
	// An offset is rounded down to a unit.
	return api.Sample{Offset: stamp.Offset(sent, came, left, heard), Delay: stamp.Delay(sent, came, left, heard), Disp: 1, At: r.Int63n(1 << 40)}
}

// P15.5: the region's ends are ends of intervals; with one more that has all points it does not shrink.
func TestRegionsEnds(t *testing.T) {
	r := rand.New(rand.NewSource(156))
	all := api.Span{Lo: math.MinInt64, Hi: math.MaxInt64}
	for range 6000 {
		l := anySpans(r, r.Intn(64))
		lo, hi, e := choose.Region(l)
		if e != api.OK {
			continue
		}
		if !slices.ContainsFunc(l, func(s api.Span) bool { return s.Lo == lo }) || !slices.ContainsFunc(l, func(s api.Span) bool { return s.Hi == hi }) || lo > hi {
			t.Fatalf("Region(%v) = %d, %d", l, lo, hi)
		}
		if 2*choose.Cover(l, lo) <= len(l) || 2*choose.Cover(l, hi) <= len(l) {
			t.Fatalf("Region(%v) = %d, %d, which are none of the majority's points", l, lo, hi)
		}
		place := r.Intn(len(l) + 1)
		a, b, e := choose.Region(slices.Insert(slices.Clone(l), place, all))
		if e != api.OK || a > lo || b < hi {
			t.Fatalf("Region(%v) = %d, %d, with one that has all points %d, %d, %v", l, lo, hi, a, b, e)
		}
	}
}

// P15.6: what survives is at least one, if more than half have one point in common that is the middle of one of these.
func TestOneSurvives(t *testing.T) {
	r := rand.New(rand.NewSource(157))
	for range 3000 {
		n := 1 + r.Intn(64)
		l := anySpans(r, n)
		among := r.Perm(n)[:n/2+1]
		mid := l[among[0]].Mid
		for _, i := range among {
			l[i].Lo, l[i].Hi = min(l[i].Lo, mid), max(l[i].Hi, mid)
		}
		places, e := choose.Survive(l)
		if e != api.OK || !slices.Contains(places, among[0]) {
			t.Fatalf("Survive(%v) = %v, %v, more than half have the middle of %d", l, places, e, among[0])
		}
	}
	// Who survives is told in the order of the places, each once.
	for range 3000 {
		l := anySpans(r, r.Intn(65))
		places, e := choose.Survive(l)
		lo, hi, err := choose.Region(l)
		if e != err {
			t.Fatalf("Survive(%v): %v, Region: %v", l, e, err)
		}
		for i, s := range l {
			if in := e == api.OK && lo <= s.Mid && s.Mid <= hi; in != slices.Contains(places, i) {
				t.Fatalf("Survive(%v) = %v, the region is %d, %d", l, places, lo, hi)
			}
		}
		if !slices.IsSorted(places) || len(slices.Compact(slices.Clone(places))) != len(places) {
			t.Fatalf("Survive(%v) = %v", l, places)
		}
	}
}

// P15.7: what is combined lies between the offsets, and moves with them.
func TestCombinedBetween(t *testing.T) {
	r := rand.New(rand.NewSource(158))
	for range 5000 {
		offsets, dists := anyOffsets(r, 1+r.Intn(64))
		mean, e := choose.Combine(offsets, dists)
		lo, hi := slices.Min(offsets), slices.Max(offsets)
		if e != api.OK || mean < lo || mean > hi {
			t.Fatalf("Combine(%v, %v) = %d, %v", offsets, dists, mean, e)
		}
		by := -most - lo + r.Int63n(2*most-hi+lo+1)
		moved := slices.Clone(offsets)
		for i := range moved {
			moved[i] += by
		}
		if got, e := choose.Combine(moved, dists); got != mean+by || e != api.OK {
			t.Fatalf("Combine(%v, %v) = %d, moved by %d %d, %v", offsets, dists, mean, by, got, e)
		}
	}
}

// P15.8: what is left is at least least, or all; each place once, rising.
func TestEnoughAreLeft(t *testing.T) {
	r := rand.New(rand.NewSource(159))
	struck := 0
	for range 3000 {
		offsets, dists := anyOffsets(r, r.Intn(40))
		least := 1 + r.Intn(len(offsets)+3)
		left, e := choose.Cluster(offsets, dists, least)
		if e != api.OK || len(left) < min(least, len(offsets)) {
			t.Fatalf("Cluster(%v, %v, %d) = %v, %v", offsets, dists, least, left, e)
		}
		for i, place := range left {
			if place < 0 || place >= len(offsets) || i > 0 && place <= left[i-1] {
				t.Fatalf("Cluster(%v, %v, %d) = %v", offsets, dists, least, left)
			}
		}
		if len(left) < len(offsets) {
			struck++
		}
	}
	if struck < 300 {
		t.Errorf("just %d times one was struck", struck)
	}
}

// Rules 4 and 5: what is handed in is not changed, what lies behind it plays no part, and what is handed out is new memory.
func TestMemory(t *testing.T) {
	r := rand.New(rand.NewSource(160))
	for _, n := range []int{0, 1, 2, 5, 63, 64} {
		l := slices.Concat(anySpans(r, n), make([]api.Span, 3), []api.Span{{Lo: 5}, {Hi: -9}})
		for i := range l[:n] {
			l[i].Lo, l[i].Mid, l[i].Hi = min(l[i].Lo, 3), 3, max(l[i].Hi, 3)
		}
		offsets, dists := anyOffsets(r, n)
		offsets, dists = append(offsets, 1<<50, 7, -1<<50), append(dists, -1, 5, 1<<62)
		spansBefore, offsetsBefore, distsBefore := slices.Clone(l), slices.Clone(offsets), slices.Clone(dists)
		for range 2 {
			wantSpans(t, l[:n])
			wantOffsets(t, offsets[:n], dists[:n], 1, 2, 3, 100)
			for _, places := range []func() []int{
				func() []int { p, _ := choose.Survive(l[:n]); return p },
				func() []int { p, _ := choose.Cluster(offsets[:n], dists[:n], 2); return p },
			} {
				p := places()
				kept := slices.Clone(p)
				q := places()
				for i := range p[:cap(p)] {
					p[:cap(p)][i] = -77
				}
				if !slices.Equal(q, kept) {
					t.Errorf("of %d: %v, want %v", n, q, kept)
				}
			}
		}
		if !slices.Equal(l, spansBefore) || !slices.Equal(offsets, offsetsBefore) || !slices.Equal(dists, distsBefore) {
			t.Errorf("of %d: what was handed in is changed", n)
		}
	}
}

// P1: each call ends, whatever the numbers are.
func TestAnyNumbers(t *testing.T) {
	r := rand.New(rand.NewSource(161))
	some := edges()
	numbers := func(n int) []int64 {
		l := make([]int64, n)
		for i := range l {
			l[i] = some[r.Intn(len(some))]
		}
		return l
	}
	for range 3000 {
		l := make([]api.Span, r.Intn(80))
		for i := range l {
			l[i] = api.Span{Lo: numbers(1)[0], Mid: numbers(1)[0], Hi: numbers(1)[0]}
		}
		wantSpans(t, l)
		wantOffsets(t, numbers(r.Intn(5)), numbers(r.Intn(5)), math.MinInt, -1, 0, 1, math.MaxInt)
	}
	for range 20 {
		wantOffsets(t, numbers(1<<16), numbers(1<<16), math.MinInt, 1, math.MaxInt)
	}
}

// The chapter's examples.
func TestExamples(t *testing.T) {
	l := spans(0, 2, 4, 2, 4, 6, 3, 6, 9)
	if lo, hi, e := choose.Region(l); lo != 2 || hi != 6 || e != api.OK || choose.Cover(l, 2) != 2 || choose.Cover(l, 3) != 3 {
		t.Errorf("Region = %d, %d, %v", lo, hi, e)
	}
	if mean, e := choose.Combine([]int64{10, 20}, []int64{0, 0}); mean != 15 || e != api.OK {
		t.Errorf("Combine = %d, %v", mean, e)
	}
}
