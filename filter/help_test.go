package filter_test

import (
	"math"
	"math/big"
	"math/rand"
	"slices"
	"testing"

	"clepsydra/api"
	"clepsydra/filter"
)

// most is how much an offset, a delay, a dispersion or a time may be.
const most = int64(1) << 60

// times are edges of the times that may be.
func times() []int64 {
	return []int64{0, 1, 2, 3, 65535, 65536, 65537, 1<<30 - 1, 1 << 30, 1<<30 + 1, 1 << 36, 1 << 59, most - 1, most}
}

// signed are these and the same below 0.
func signed() []int64 {
	l := times()
	for _, n := range times() {
		l = append(l, -n)
	}
	return l
}

// nows are edges of what a time that is asked for is.
func nows() []int64 {
	return append(signed(), most+1, -most-1, most+65536, -most-65536, math.MaxInt64, math.MinInt64, math.MinInt64+1)
}

// wrongs are samples that may not be: each of these is wrong in one field.
func wrongs() []api.Sample {
	var l []api.Sample
	for _, n := range []int64{most + 1, -most - 1, most + 65536, math.MaxInt64, math.MinInt64, math.MinInt64 + 1} {
		l = append(l, api.Sample{Offset: n}, api.Sample{At: n}, api.Sample{Delay: n}, api.Sample{Disp: n})
	}
	for _, n := range []int64{-1, -2, -1 << 30, -most} {
		l = append(l, api.Sample{Delay: n}, api.Sample{Disp: n}, api.Sample{Delay: n, Disp: -n}, api.Sample{Offset: 5, Delay: -n, Disp: n})
	}
	return l
}

// anyOf is one of a list, by chance.
func anyOf(r *rand.Rand, l []int64) int64 { return l[r.Intn(len(l))] }

// anySample is a sample that may be, by chance: of few small numbers, so that distances are often the same, of edges, or of all that may be.
func anySample(r *rand.Rand) api.Sample {
	switch r.Intn(4) {
	case 0:
		return api.Sample{Offset: anyOf(r, signed()), Delay: anyOf(r, times()), Disp: anyOf(r, times()), At: anyOf(r, signed())}
	case 1:
		return api.Sample{Offset: r.Int63n(2*most+1) - most, Delay: r.Int63n(most + 1), Disp: r.Int63n(most + 1), At: r.Int63n(2*most+1) - most}
	}
	return api.Sample{Offset: r.Int63n(2000) - 1000, Delay: r.Int63n(6), Disp: r.Int63n(3), At: 65536*r.Int63n(4) + r.Int63n(3) - 1}
}

// anyNow is a time, by chance.
func anyNow(r *rand.Rand) int64 {
	switch r.Intn(4) {
	case 0:
		return anyOf(r, nows())
	case 1:
		return int64(r.Uint64()) >> r.Intn(64)
	}
	return 65536*r.Int63n(6) + r.Int63n(5) - 2
}

// number is a number of which sums and squares are made without bounds.
func number(n int64) *big.Int { return big.NewInt(n) }

// within is the nearest number between two.
func within(n *big.Int, lo, hi int64) *big.Int {
	if n.Cmp(number(lo)) < 0 {
		return number(lo)
	}
	if n.Cmp(number(hi)) > 0 {
		return number(hi)
	}
	return n
}

// agedOf is how much a sample has aged, word by word.
func agedOf(s api.Sample, now int64) *big.Int {
	age := new(big.Int).Sub(within(number(now), -most, most), number(s.At))
	return age.Div(within(age, 0, math.MaxInt64), number(65536))
}

// distanceOf is the distance of a sample that may be, word by word.
func distanceOf(s api.Sample, now int64) *big.Int {
	half := new(big.Int).Div(number(s.Delay), number(2))
	return half.Add(half, new(big.Int).Add(number(s.Disp), agedOf(s, now)))
}

// lastOf is a list's last samples, as many as a filter keeps.
func lastOf(l []api.Sample) []api.Sample { return l[max(0, len(l)-8):] }

// rowOf is the row of a filter into which a list was put, word by word: each time the one of the least distance of those that are left, and of several the last one.
func rowOf(l []api.Sample, now int64) []api.Sample {
	left, row := slices.Clone(lastOf(l)), []api.Sample(nil)
	for len(left) > 0 {
		best := 0
		for i := range left {
			if distanceOf(left[i], now).Cmp(distanceOf(left[best], now)) <= 0 {
				best = i
			}
		}
		row = append(row, left[best])
		left = slices.Delete(left, best, best+1)
	}
	return row
}

// jitterOf is the jitter of it, word by word.
func jitterOf(l []api.Sample, now int64) int64 {
	row := rowOf(l, now)
	if len(row) < 2 {
		return 0
	}
	sum := new(big.Int)
	for _, s := range row[1:] {
		d := within(new(big.Int).Sub(number(s.Offset), number(row[0].Offset)), -1<<30, 1<<30)
		sum.Add(sum, new(big.Int).Mul(d, d))
	}
	return sum.Sqrt(sum.Div(sum, number(int64(len(row)-1)))).Int64()
}

// dispOf is how far all of it may be off, word by word.
func dispOf(l []api.Sample, now int64) int64 {
	row, sum, part := rowOf(l, now), new(big.Int), int64(1)
	for i := range 8 {
		part *= 2
		off := number(1 << 36)
		if i < len(row) {
			off = new(big.Int).Add(number(row[i].Disp), agedOf(row[i], now))
		}
		sum.Add(sum, off.Div(off, number(part)))
	}
	return sum.Int64()
}

// filterOf is a filter into which a list was put.
func filterOf(t *testing.T, l []api.Sample) *filter.Filter {
	t.Helper()
	f := filter.New()
	for _, s := range l {
		if e := f.Add(s); e != api.OK {
			t.Fatalf("Add(%v): %v", s, e)
		}
	}
	return f
}

// wantFilter tells if a filter answers something else than one should into which a list was put.
func wantFilter(t *testing.T, f *filter.Filter, l []api.Sample, nows ...int64) {
	t.Helper()
	if f.Len() != len(lastOf(l)) {
		t.Fatalf("Len = %d, want %d", f.Len(), len(lastOf(l)))
	}
	for _, now := range nows {
		row := rowOf(l, now)
		if got := f.Row(now); !slices.Equal(got, row) {
			t.Fatalf("Row(%d) of %v = %v, want %v", now, lastOf(l), got, row)
		}
		best, want := api.Sample{}, api.ErrNone
		if len(row) > 0 {
			best, want = row[0], api.OK
		}
		if got, e := f.Best(now); got != best || e != want {
			t.Fatalf("Best(%d) of %v = %v, %v, want %v, %v", now, lastOf(l), got, e, best, want)
		}
		if got := f.Jitter(now); got != jitterOf(l, now) {
			t.Fatalf("Jitter(%d) of %v = %d, want %d", now, lastOf(l), got, jitterOf(l, now))
		}
		if got := f.Disp(now); got != dispOf(l, now) {
			t.Fatalf("Disp(%d) of %v = %d, want %d", now, lastOf(l), got, dispOf(l, now))
		}
	}
}
