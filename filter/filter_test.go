package filter_test

import (
	"math"
	"math/big"
	"math/rand"
	"testing"

	"clepsydra/api"
	"clepsydra/filter"
)

// P14.1: New, Add, Len, Reset.

func TestNew(t *testing.T) {
	f := filter.New()
	if f == nil {
		t.Fatal("New is nil")
	}
	wantFilter(t, f, nil, nows()...)
	// Each is one of its own.
	g := filter.New()
	f.Add(api.Sample{Offset: 5})
	wantFilter(t, g, nil, 0)
	wantFilter(t, f, []api.Sample{{Offset: 5}}, nows()...)
}

func TestAdd(t *testing.T) {
	f := filter.New()
	var put []api.Sample
	for _, n := range signed() {
		for _, s := range []api.Sample{{Offset: n}, {At: n}, {Delay: max(n, -n)}, {Disp: max(n, -n)}, {Offset: n, Delay: max(n, -n), Disp: max(n, -n), At: n}} {
			if e := f.Add(s); e != api.OK {
				t.Fatalf("Add(%v): %v", s, e)
			}
			put = append(put, s)
			wantFilter(t, f, put, 0, n, most, math.MaxInt64, math.MinInt64)
		}
	}
}

// With an error nothing has changed.
func TestAddWrong(t *testing.T) {
	for n := range 10 {
		put := make([]api.Sample, n)
		for i := range put {
			put[i] = api.Sample{Offset: int64(i), Delay: int64(i), Disp: 1, At: 7}
		}
		f := filterOf(t, put)
		for _, s := range wrongs() {
			if e := f.Add(s); e != api.ErrArg {
				t.Errorf("Add(%v): %v", s, e)
			}
			wantFilter(t, f, put, 0, 1<<20)
		}
		last := api.Sample{Offset: 100, At: 1 << 20}
		if e := f.Add(last); e != api.OK {
			t.Errorf("Add behind wrong ones: %v", e)
		}
		wantFilter(t, f, append(put, last), 0, 1<<20)
	}
}

func TestNil(t *testing.T) {
	var f *filter.Filter
	for _, s := range append(wrongs(), api.Sample{}, api.Sample{Offset: 1, Delay: 2, Disp: 3, At: 4}) {
		if e := f.Add(s); e != api.ErrNil {
			t.Errorf("Add(%v) to nil: %v", s, e)
		}
	}
	if e := f.Reset(); e != api.ErrNil {
		t.Errorf("Reset of nil: %v", e)
	}
	wantFilter(t, f, nil, nows()...)
}

// One that no call made is one without samples.
func TestUnmade(t *testing.T) {
	var f filter.Filter
	wantFilter(t, &f, nil, nows()...)
	if e := f.Reset(); e != api.OK {
		t.Errorf("Reset: %v", e)
	}
	wantFilter(t, &f, nil, nows()...)
	var put []api.Sample
	for i := range int64(20) {
		put = append(put, api.Sample{Offset: i, Delay: 20 - i})
		if e := f.Add(put[i]); e != api.OK {
			t.Errorf("Add: %v", e)
		}
		wantFilter(t, &f, put, 0, 65536)
	}
}

// With Stages samples there the oldest one leaves, be it the best one or not.
func TestOldestLeaves(t *testing.T) {
	for _, delay := range []func(i int64) int64{
		func(i int64) int64 { return 2 * i }, func(i int64) int64 { return 200 - 2*i }, func(i int64) int64 { return 0 }, func(i int64) int64 { return i * 37 % 11 * 2 },
	} {
		f := filter.New()
		var put []api.Sample
		for i := range int64(40) {
			put = append(put, api.Sample{Offset: i, Delay: delay(i)})
			if e := f.Add(put[i]); e != api.OK || f.Len() != min(int(i)+1, 8) {
				t.Errorf("Add: %v, Len: %d", e, f.Len())
			}
			wantFilter(t, f, put, 0)
			for _, s := range f.Row(0) {
				if s.Offset <= i-8 {
					t.Errorf("behind sample %d there is still %v", i, s)
				}
			}
		}
	}
}

func TestReset(t *testing.T) {
	for n := range 20 {
		put := make([]api.Sample, n)
		for i := range put {
			put[i] = api.Sample{Offset: int64(i), Delay: int64(i)}
		}
		f := filterOf(t, put)
		for range 2 {
			if e := f.Reset(); e != api.OK {
				t.Errorf("Reset: %v", e)
			}
			wantFilter(t, f, nil, nows()...)
		}
		put = nil
		for i := range int64(10) {
			put = append(put, api.Sample{Offset: -i, Delay: 20 - i, At: i})
			if e := f.Add(put[i]); e != api.OK {
				t.Errorf("Add behind Reset: %v", e)
			}
			wantFilter(t, f, put, 0, 1<<40)
		}
	}
}

// P14.2: Row, Best, Distance, Root.

func TestRow(t *testing.T) {
	for _, c := range []struct {
		put  []api.Sample
		now  int64
		want []int64 // the offsets
	}{
		{[]api.Sample{{Offset: 1, Delay: 4}, {Offset: 2, Delay: 2}, {Offset: 3, Delay: 6}}, 0, []int64{2, 1, 3}},
		{[]api.Sample{{Offset: 1, Delay: 4}, {Offset: 2, Disp: 1}, {Offset: 3, Disp: 3}}, 0, []int64{2, 1, 3}},
		// Of the same distance, rounded down, the later one is ahead.
		{[]api.Sample{{Offset: 1, Delay: 4}, {Offset: 2, Delay: 5}, {Offset: 3, Delay: 4}}, 0, []int64{3, 2, 1}}, {[]api.Sample{{Offset: 1, Delay: 2}, {Offset: 2, Disp: 1}, {Offset: 3, Delay: 1, Disp: 1}, {Offset: 4}}, 0, []int64{4, 3, 2, 1}},
		// The earlier one ages first, and as the later one's time comes they age both.
		{[]api.Sample{{Offset: 1, Delay: 2}, {Offset: 2, Delay: 4, At: 65536}}, 65535, []int64{1, 2}}, {[]api.Sample{{Offset: 1, Delay: 2}, {Offset: 2, Delay: 4, At: 65536}}, 65536, []int64{2, 1}}, {[]api.Sample{{Offset: 1, Delay: 2}, {Offset: 2, Delay: 6, At: 65536}}, 1 << 40, []int64{1, 2}},
		{[]api.Sample{{Offset: 1}, {Offset: 2, Delay: 2, At: 131072}}, -5, []int64{1, 2}}, {[]api.Sample{{Offset: 1}, {Offset: 2, Delay: 2, At: 131072}}, 131072, []int64{2, 1}},
		{[]api.Sample{{Offset: 1, At: 131072}, {Offset: 2}}, 65535, []int64{2, 1}}, {[]api.Sample{{Offset: 1, At: 131072}, {Offset: 2}}, 65536, []int64{1, 2}},
		// Round the array, too.
		{[]api.Sample{{Offset: 1}, {Offset: 2}, {Offset: 3}, {Offset: 4}, {Offset: 5}, {Offset: 6}, {Offset: 7}, {Offset: 8}, {Offset: 9}, {Offset: 10}, {Offset: 11}}, 0, []int64{11, 10, 9, 8, 7, 6, 5, 4}},
	} {
		f := filterOf(t, c.put)
		row := f.Row(c.now)
		for i, s := range row {
			if len(row) != len(c.want) || s.Offset != c.want[i] {
				t.Errorf("Row(%d) of %v = %v, want %v", c.now, c.put, row, c.want)
				break
			}
		}
		wantFilter(t, f, c.put, c.now)
		if best, e := f.Best(c.now); e != api.OK || best.Offset != c.want[0] {
			t.Errorf("Best(%d) of %v = %v, %v", c.now, c.put, best, e)
		}
	}
}

func TestDistance(t *testing.T) {
	for _, c := range []struct {
		s         api.Sample
		now, want int64
	}{
		{api.Sample{Delay: 7, Disp: 2}, 65536, 6}, {api.Sample{}, 0, 0}, {api.Sample{Delay: 1}, 0, 0}, {api.Sample{Delay: 2}, 0, 1}, {api.Sample{Disp: 1}, 0, 1}, {api.Sample{Offset: most}, 0, 0}, {api.Sample{Offset: -most}, 0, 0},
		{api.Sample{}, 65535, 0}, {api.Sample{}, 65536, 1}, {api.Sample{}, 131071, 1}, {api.Sample{}, 131072, 2}, {api.Sample{}, -65536, 0}, {api.Sample{}, math.MinInt64, 0},
		{api.Sample{At: 5}, 65540, 0}, {api.Sample{At: 5}, 65541, 1}, {api.Sample{At: -5}, 65530, 0}, {api.Sample{At: -5}, 65531, 1}, {api.Sample{At: 65536}, 65535, 0}, {api.Sample{At: 65536}, 0, 0},
		{api.Sample{}, most - 1, 1<<44 - 1}, {api.Sample{}, most, 1 << 44}, {api.Sample{}, most + 65536, 1 << 44}, {api.Sample{}, math.MaxInt64, 1 << 44}, {api.Sample{At: -most}, math.MaxInt64, 1 << 45}, {api.Sample{At: most}, math.MaxInt64, 0},
		{api.Sample{At: -most}, -most + 65535, 0}, {api.Sample{At: -most}, -most + 65536, 1}, {api.Sample{At: -most}, math.MinInt64, 0}, {api.Sample{Offset: most, Delay: most, Disp: most, At: -most}, math.MaxInt64, 1<<59 + 1<<60 + 1<<45},
		{api.Sample{Delay: most - 1}, 0, 1<<59 - 1},
	} {
		if got := filter.Distance(c.s, c.now); got != c.want {
			t.Errorf("Distance(%v, %d) = %d, want %d", c.s, c.now, got, c.want)
		}
	}
	for _, now := range nows() {
		for _, s := range wrongs() {
			if got := filter.Distance(s, now); got != -1 {
				t.Errorf("Distance(%v, %d) = %d", s, now, got)
			}
		}
		for _, n := range signed() {
			for _, s := range []api.Sample{{Offset: n}, {At: n}, {Delay: max(n, -n), At: n}, {Disp: max(n, -n), At: -n}, {Offset: n, Delay: max(n, -n), Disp: max(n, -n), At: n}} {
				if got := filter.Distance(s, now); number(got).Cmp(distanceOf(s, now)) != 0 {
					t.Errorf("Distance(%v, %d) = %d, want %v", s, now, got, distanceOf(s, now))
				}
			}
		}
	}
	r := rand.New(rand.NewSource(141))
	for range 20000 {
		s, now := anySample(r), anyNow(r)
		if got := filter.Distance(s, now); number(got).Cmp(distanceOf(s, now)) != 0 {
			t.Fatalf("Distance(%v, %d) = %d, want %v", s, now, got, distanceOf(s, now))
		}
	}
}

func TestRoot(t *testing.T) {
	for _, c := range []struct{ n, want uint64 }{
		{0, 0}, {1, 1}, {2, 1}, {3, 1}, {4, 2}, {8, 2}, {9, 3}, {15, 3}, {16, 4}, {17, 4}, {math.MaxUint64, 1<<32 - 1}, {math.MaxInt64, 3037000499}, {1 << 63, 3037000499}, {1 << 62, 1 << 31}, {1<<62 - 1, 1<<31 - 1},
		{1<<64 - 1<<33 + 1, 1<<32 - 1}, {1<<64 - 1<<33, 1<<32 - 2}, {1<<53 + 1, 94906265},
	} {
		if got := filter.Root(c.n); got != c.want {
			t.Errorf("Root(%d) = %d, want %d", c.n, got, c.want)
		}
	}
	r := rand.New(rand.NewSource(142))
	look := func(n uint64) {
		x := new(big.Int).SetUint64(n)
		if got, want := filter.Root(n), x.Sqrt(x).Uint64(); got != want {
			t.Fatalf("Root(%d) = %d, want %d", n, got, want)
		}
	}
	for n := range uint64(70000) {
		look(n)
		look(math.MaxUint64 - n)
	}
	for range 20000 {
		look(r.Uint64() >> r.Intn(64))
		root := uint64(r.Uint32())
		look(root * root)
		look(root*root - 1)
		look(root*root + 1)
	}
}

// P14.3: Jitter, Disp.

func TestJitter(t *testing.T) {
	for _, c := range []struct {
		offsets []int64 // the first one is the best
		want    int64
	}{
		{nil, 0}, {[]int64{5}, 0}, {[]int64{5, 5}, 0}, {[]int64{5, 8}, 3}, {[]int64{5, 2}, 3}, {[]int64{-5, 5}, 10}, {[]int64{0, 3, 4}, 3}, {[]int64{0, 1, 0, 0}, 0}, {[]int64{0, 1, 1, 1}, 1}, {[]int64{0, 1, 2, 2}, 1}, {[]int64{0, 2, 2, 2}, 2},
		{[]int64{0, 2, 2, 1}, 1}, {[]int64{0, 1, 2, 3, 4, 5, 6, 7}, 4}, {[]int64{10, 7, 10, 7}, 2}, {[]int64{0, 0, 0, 0, 0, 0, 0, 1}, 0}, {[]int64{0, 0, 0, 0, 0, 0, 0, 3}, 1},
		// What differs by more than a quarter of a second, differs by that much.
		{[]int64{0, 1<<30 - 1}, 1<<30 - 1}, {[]int64{0, 1 << 30}, 1 << 30}, {[]int64{0, 1<<30 + 1}, 1 << 30}, {[]int64{0, -1<<30 + 1}, 1<<30 - 1}, {[]int64{0, -1 << 30}, 1 << 30}, {[]int64{0, -1<<30 - 1}, 1 << 30}, {[]int64{most, -most}, 1 << 30}, {[]int64{-most, most}, 1 << 30},
		{[]int64{most, most - 5}, 5}, {[]int64{-most, 5 - most}, 5}, {[]int64{1 << 40, 1<<40 + 7}, 7}, {[]int64{0, most, -most, most, -most, most, -most, most}, 1 << 30}, {[]int64{0, 1 << 35, 0}, 759250124}, {[]int64{most, -most, -most, -most, -most, -most, -most, -most}, 1 << 30},
	} {
		for turned := range 2 {
			// The best one is put in first, or last.
			var put []api.Sample
			for i, n := range c.offsets {
				s := api.Sample{Offset: n, Delay: int64(2 * i)}
				if turned == 1 {
					put = append([]api.Sample{s}, put...)
				} else {
					put = append(put, s)
				}
			}
			f := filterOf(t, put)
			if got := f.Jitter(0); got != c.want {
				t.Errorf("Jitter of %v = %d, want %d", c.offsets, got, c.want)
			}
			wantFilter(t, f, put, nows()...)
		}
	}
}

func TestDisp(t *testing.T) {
	const empty = 1<<36 - 1<<28
	for _, c := range []struct {
		put       []api.Sample
		now, want int64
	}{
		{nil, 0, empty}, {nil, math.MaxInt64, empty}, {[]api.Sample{{}}, 0, empty - 1<<35}, {[]api.Sample{{Disp: 7}}, 0, empty - 1<<35 + 3}, {[]api.Sample{{Disp: 1}}, 65535, empty - 1<<35}, {[]api.Sample{{Disp: 1}}, 65536, empty - 1<<35 + 1},
		{[]api.Sample{{Disp: 1 << 37}}, 0, empty + 1<<35}, {[]api.Sample{{Delay: most, Offset: 5}}, 0, empty - 1<<35},
		// The nearest one counts most, though it was put in first.
		{[]api.Sample{{Disp: 8}, {Disp: 80}}, 0, empty - 1<<35 - 1<<34 + 4 + 20}, {[]api.Sample{{Disp: 80}, {Disp: 8}}, 0, empty - 1<<35 - 1<<34 + 4 + 20}, {[]api.Sample{{Disp: 80}, {Disp: 8, Delay: 200}}, 0, empty - 1<<35 - 1<<34 + 40 + 2},
		// Each is rounded down by itself.
		{[]api.Sample{{Disp: 1}, {Disp: 3}, {Disp: 7}, {Disp: 15}, {Disp: 31}, {Disp: 63}, {Disp: 127}, {Disp: 255}}, 0, 0}, {[]api.Sample{{Disp: 2}, {Disp: 4}, {Disp: 8}, {Disp: 16}, {Disp: 32}, {Disp: 64}, {Disp: 128}, {Disp: 256}}, 0, 8},
		{[]api.Sample{{}, {}, {}, {}, {}, {}, {}}, 0, 1 << 28}, {[]api.Sample{{}, {}, {}, {}, {}, {}, {}, {}}, 0, 0}, {[]api.Sample{{}, {}, {}, {}, {}, {}, {}, {}}, 65536 * 256, 128 + 64 + 32 + 16 + 8 + 4 + 2 + 1},
		{[]api.Sample{{Disp: most}}, 0, empty - 1<<35 + 1<<59}, {[]api.Sample{{Disp: most, At: -most}}, math.MaxInt64, empty - 1<<35 + 1<<59 + 1<<44},
	} {
		f := filterOf(t, c.put)
		if got := f.Disp(c.now); got != c.want {
			t.Errorf("Disp(%d) of %v = %d, want %d", c.now, c.put, got, c.want)
		}
		wantFilter(t, f, c.put, nows()...)
	}
	// As far off as they may be.
	var put []api.Sample
	for range 8 {
		put = append(put, api.Sample{Offset: -most, Delay: most, Disp: most, At: -most})
	}
	if got, want := filterOf(t, put).Disp(math.MaxInt64), most-most/256+1<<45-1<<37; got != want {
		t.Errorf("Disp of the greatest = %d, want %d", got, want)
	}
}

// Whatever comes by chance, a filter answers what a list of what was put in tells.
func TestByChance(t *testing.T) {
	for seed := range int64(150) {
		r := rand.New(rand.NewSource(seed))
		f := filter.New()
		var put []api.Sample
		for range 60 {
			switch r.Intn(20) {
			case 0:
				put = nil
				if e := f.Reset(); e != api.OK {
					t.Fatalf("Reset: %v", e)
				}
			case 1:
				s := wrongs()[r.Intn(len(wrongs()))]
				if e := f.Add(s); e != api.ErrArg {
					t.Fatalf("Add(%v): %v", s, e)
				}
			default:
				put = append(put, anySample(r))
				if e := f.Add(put[len(put)-1]); e != api.OK {
					t.Fatalf("Add(%v): %v", put[len(put)-1], e)
				}
			}
			wantFilter(t, f, put, anyNow(r), anyNow(r))
		}
	}
}
