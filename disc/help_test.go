package disc_test

import (
	"math"
	"math/big"
	"math/rand"
	"testing"

	"clepsydra/api"
	"clepsydra/disc"
)

const (
	second   = int64(1) << 32
	mostTime = int64(1) << 60
	mostFreq = int64(2147483)
	panics   = 1000 * second
	steps    = int64(549755814)
)

// times are edges of the times that may be.
func times() []int64 {
	l := []int64{0, 1, 5, 63, 64, 65, second - 1, second, second + 1, steps - 1, steps, steps + 1, panics - 1, panics, panics + 1, 1 << 59, mostTime - 1, mostTime}
	for _, n := range l[1:18] {
		l = append(l, -n)
	}
	return l
}

// beyond are times that may not be.
func beyond() []int64 {
	return []int64{mostTime + 1, -mostTime - 1, mostTime + second, math.MaxInt64, math.MinInt64, math.MinInt64 + 1}
}

// wrongs are states that may not be: each of these is wrong in one field.
func wrongs() []api.Clock {
	l := []api.Clock{{Freq: mostFreq + 1}, {Freq: -mostFreq - 1}, {Poll: -1}, {Poll: 18}, {Poll: math.MaxInt}, {Poll: math.MinInt}, {Poll: 64}}
	for _, n := range beyond() {
		l = append(l, api.Clock{Freq: n}, api.Clock{Left: n}, api.Clock{Last: n})
	}
	for _, c := range l {
		c.Set = true
		l = append(l, c)
	}
	return l
}

// within tells whether a number is from minus a bound to it.
func within(n, bound int64) bool { return -bound <= n && n <= bound }

// isWrong tells whether a state may not be, word by word.
func isWrong(c api.Clock) bool {
	return !within(c.Freq, mostFreq) || !within(c.Left, mostTime) || !within(c.Last, mostTime) || c.Poll < 0 || c.Poll > 17
}

// updateOf is an update, word by word, with numbers without bounds.
func updateOf(c api.Clock, offset, at int64) (api.Clock, disc.Told, api.Errno) {
	if isWrong(c) || !within(offset, mostTime) || !within(at, mostTime) {
		return api.Clock{}, disc.Told{}, api.ErrArg
	}
	if !c.Set {
		return api.Clock{Freq: c.Freq, Poll: c.Poll, Last: at, Set: true}, disc.Told{What: 1, Step: offset}, api.OK
	}
	if !within(offset, panics) {
		return api.Clock{}, disc.Told{}, api.ErrPanic
	}
	if at < c.Last {
		return api.Clock{}, disc.Told{}, api.ErrArg
	}
	if !within(offset, steps) {
		return api.Clock{Freq: c.Freq, Poll: c.Poll, Last: at, Set: true}, disc.Told{What: 2, Step: offset}, api.OK
	}
	t := new(big.Int).Lsh(big.NewInt(16), uint(c.Poll))
	seconds := new(big.Int).Sub(big.NewInt(at), big.NewInt(c.Last))
	if seconds.Rsh(seconds, 32); seconds.Cmp(t) > 0 {
		seconds = t
	}
	// Quo rounds towards 0.
	change := new(big.Int).Mul(big.NewInt(offset), seconds)
	change.Quo(change.Quo(change, t), t)
	freq := change.Add(change, big.NewInt(c.Freq)).Int64()
	return api.Clock{Freq: max(-mostFreq, min(freq, mostFreq)), Left: offset, Last: at, Poll: c.Poll, Set: true}, disc.Told{What: 3}, api.OK
}

// slewOf is what seconds do, word by word, with numbers without bounds.
func slewOf(c api.Clock, seconds int) (api.Clock, int64, api.Errno) {
	if isWrong(c) || seconds < 0 || seconds > 4096 {
		return api.Clock{}, 0, api.ErrArg
	}
	left, moved := big.NewInt(c.Left), new(big.Int)
	for i := 0; i < seconds; i++ {
		move := new(big.Int).Set(left)
		if left.CmpAbs(big.NewInt(64)) >= 0 {
			move.Quo(left, big.NewInt(64))
		}
		left.Sub(left, move)
		moved.Add(moved, move.Add(move, big.NewInt(c.Freq)))
	}
	c.Left = left.Int64()
	return c, moved.Int64(), api.OK
}

// wantUpdate tells if an update comes to something else than it should.
func wantUpdate(t *testing.T, c api.Clock, offset, at int64) {
	t.Helper()
	d, told, e := updateOf(c, offset, at)
	if got, what, err := disc.Update(c, offset, at); got != d || what != told || err != e {
		t.Fatalf("Update(%+v, %d, %d) = %+v, %+v, %v, want %+v, %+v, %v", c, offset, at, got, what, err, d, told, e)
	}
}

// wantSlew tells if seconds do something else than they should.
func wantSlew(t *testing.T, c api.Clock, seconds int) {
	t.Helper()
	d, moved, e := slewOf(c, seconds)
	if got, n, err := disc.Slew(c, seconds); got != d || n != moved || err != e {
		t.Fatalf("Slew(%+v, %d) = %+v, %d, %v, want %+v, %d, %v", c, seconds, got, n, err, d, moved, e)
	}
}

// anyTime is a time that may be, by chance.
func anyTime(r *rand.Rand) int64 {
	if r.Intn(4) == 0 {
		return times()[r.Intn(len(times()))]
	}
	return r.Int63n(2*mostTime+1) - mostTime
}

// anyClock is a state that may be, by chance.
func anyClock(r *rand.Rand) api.Clock {
	c := api.Clock{Freq: r.Int63n(2*mostFreq+1) - mostFreq, Left: anyTime(r) >> r.Intn(61), Last: anyTime(r) >> r.Intn(61), Poll: r.Intn(18), Set: r.Intn(5) > 0}
	if r.Intn(4) == 0 {
		c.Freq = []int64{0, mostFreq, -mostFreq, mostFreq - 1}[r.Intn(4)]
	}
	return c
}

// anySlewed is an offset that is slewed, by chance.
func anySlewed(r *rand.Rand) int64 { return (r.Int63n(2*steps+1) - steps) >> r.Intn(20) }
