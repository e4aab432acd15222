package filter_test

import (
	"math"
	"math/rand"
	"slices"
	"testing"

	"clepsydra/api"
	"clepsydra/filter"
)

// P14.4: what was put in Stages samples ago plays no part.
func TestLongAgo(t *testing.T) {
	r := rand.New(rand.NewSource(144))
	for range 300 {
		last := make([]api.Sample, 8)
		for i := range last {
			last[i] = anySample(r)
		}
		var ago []api.Sample
		for range r.Intn(30) {
			ago = append(ago, anySample(r))
		}
		f, g := filterOf(t, slices.Concat(ago, last)), filterOf(t, last)
		for _, now := range append(nows(), anyNow(r)) {
			best, e := f.Best(now)
			other, d := g.Best(now)
			if best != other || e != d || f.Len() != g.Len() || !slices.Equal(f.Row(now), g.Row(now)) || f.Jitter(now) != g.Jitter(now) || f.Disp(now) != g.Disp(now) {
				t.Fatalf("behind %v, at %d %v tell something else", ago, now, last)
			}
		}
	}
}

// P14.5: no sample has a smaller distance than the best one.
func TestNoneBetter(t *testing.T) {
	r := rand.New(rand.NewSource(145))
	for range 2000 {
		put := make([]api.Sample, 1+r.Intn(12))
		for i := range put {
			put[i] = anySample(r)
		}
		now := anyNow(r)
		best, e := filterOf(t, put).Best(now)
		if e != api.OK || !slices.Contains(lastOf(put), best) {
			t.Fatalf("Best(%d) of %v = %v, %v", now, lastOf(put), best, e)
		}
		for _, s := range lastOf(put) {
			if filter.Distance(s, now) < filter.Distance(best, now) {
				t.Fatalf("at %d %v has a smaller distance than the best one, %v", now, s, best)
			}
		}
	}
}

// P14.6: if each sample's Offset is off from the true one by at most its distance, so is the best one's.
func TestBestIsRight(t *testing.T) {
	r := rand.New(rand.NewSource(146))
	for range 2000 {
		right, now := r.Int63n(1<<40)-1<<39, r.Int63n(1<<50)
		f := filter.New()
		for range 1 + r.Intn(12) {
			s := api.Sample{Delay: r.Int63n(1 << 34), Disp: r.Int63n(1 << 30), At: now - r.Int63n(1<<45)}
			off := filter.Distance(s, now)
			s.Offset = right + r.Int63n(2*off+1) - off
			if e := f.Add(s); e != api.OK {
				t.Fatalf("Add(%v): %v", s, e)
			}
		}
		best, e := f.Best(now)
		if off := best.Offset - right; e != api.OK || max(off, -off) > filter.Distance(best, now) {
			t.Fatalf("the best one, %v, is off by %d at %d", best, off, now)
		}
	}
}

// P14.7: behind a sample that is alike in all, and nothing else, there is no jitter.
func TestAlike(t *testing.T) {
	r := rand.New(rand.NewSource(147))
	for range 200 {
		s := anySample(r)
		f := filter.New()
		for range 20 {
			f.Add(s)
			if now := anyNow(r); f.Jitter(now) != 0 {
				t.Fatalf("of %d times %v there is a jitter of %d at %d", f.Len(), s, f.Jitter(now), now)
			}
		}
	}
}

// P14.7: no sample's distance, and not the best one's, ever gets smaller while time goes on.
func TestTimeGoesOn(t *testing.T) {
	r := rand.New(rand.NewSource(148))
	for range 300 {
		put := make([]api.Sample, 1+r.Intn(8))
		for i := range put {
			put[i] = anySample(r)
		}
		f := filterOf(t, put)
		l := nows()
		for range 40 {
			l = append(l, anyNow(r))
		}
		slices.Sort(l)
		before := make([]int64, len(put))
		ofBest := int64(0)
		for _, now := range l {
			for i, s := range put {
				d := filter.Distance(s, now)
				if d < before[i] {
					t.Fatalf("the distance of %v gets smaller at %d: %d, not %d", s, now, d, before[i])
				}
				before[i] = d
			}
			best, e := f.Best(now)
			d := filter.Distance(best, now)
			if e != api.OK || d < ofBest {
				t.Fatalf("the best one's distance gets smaller at %d: %d, not %d", now, d, ofBest)
			}
			ofBest = d
		}
	}
}

// Asking changes nothing, and hangs not on what was asked before.
func TestAskingAgain(t *testing.T) {
	r := rand.New(rand.NewSource(149))
	for range 100 {
		put := make([]api.Sample, r.Intn(20))
		for i := range put {
			put[i] = anySample(r)
		}
		f := filterOf(t, put)
		for range 5 {
			wantFilter(t, f, put, anyNow(r), math.MaxInt64, anyNow(r), math.MinInt64, anyNow(r))
		}
	}
}

// Rules 4 and 5: what is handed out is new memory.
func TestMemory(t *testing.T) {
	r := rand.New(rand.NewSource(150))
	for n := range 12 {
		put := make([]api.Sample, n)
		for i := range put {
			put[i] = anySample(r)
		}
		f := filterOf(t, put)
		for range 3 {
			row, other := f.Row(5), f.Row(5)
			row = row[:cap(row)]
			for i := range row {
				row[i] = api.Sample{Offset: 77, Delay: 77, Disp: 77, At: 77}
			}
			if !slices.Equal(other, rowOf(put, 5)) {
				t.Fatalf("two rows share their memory: %v", other)
			}
			wantFilter(t, f, put, 5, 0)
		}
		row := f.Row(5)
		f.Add(api.Sample{Offset: 1})
		f.Reset()
		if !slices.Equal(row, rowOf(put, 5)) {
			t.Errorf("a row that was handed out is changed: %v", row)
		}
	}
}

// What the chapter names.
func TestExamples(t *testing.T) {
	if got := filter.Distance(api.Sample{Delay: 7, Disp: 2, At: 0}, 65536); got != 3+2+1 {
		t.Errorf("Distance = %d", got)
	}
	if got := filter.Root(17); got != 4 {
		t.Errorf("Root(17) = %d", got)
	}
}
