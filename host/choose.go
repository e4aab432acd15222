package host

import (
	"clepsydra/api"
	"clepsydra/choose"
	"clepsydra/filter"
)

// How far the ends of intervals go at most, and what is combined.
const (
	mostEnd      = 1 << 61
	mostCombined = 1 << 40
)

// Choose is the offset that the majority tells.
func (h *Host) Choose(now uint64) (int64, api.Errno) {
	if h.unmade() {
		return 0, api.ErrNil
	}
	var spans []api.Span
	var offsets, dists []int64
	for _, a := range h.peers {
		age := a.age(now)
		best, e := a.samples.Best(age)
		if e != api.OK {
			continue
		}
		mid, far := best.Offset, filter.Distance(best, age)
		spans = append(spans, api.Span{Lo: within(mid-far, mostEnd), Mid: within(mid, mostEnd), Hi: within(mid+far, mostEnd)})
		offsets, dists = append(offsets, within(mid, mostCombined)), append(dists, within(far, mostCombined))
	}
	places, e := choose.Survive(spans)
	if e != api.OK {
		return 0, e
	}
	return choose.Combine(picked(offsets, places), picked(dists, places))
}

// picked are the members of a list that stand at some places.
func picked(l []int64, places []int) []int64 {
	var out []int64
	for _, i := range places {
		out = append(out, l[i])
	}
	return out
}

// within is the nearest number from minus a bound to the bound.
func within(n, bound int64) int64 { return max(-bound, min(n, bound)) }
