package disc_test

import (
	"math"
	"math/rand"
	"testing"

	"clepsydra/api"
	"clepsydra/disc"
)

// P16.1: Update.

func TestUpdate(t *testing.T) {
	set := api.Clock{Freq: 100, Left: 9, Last: 5 * second, Poll: 6, Set: true}
	for _, c := range []struct {
		c          api.Clock
		offset, at int64
		want       api.Clock
		told       disc.Told
		e          api.Errno
	}{
		// One that is not set is set by any offset, at any time.
		{api.Clock{}, 5, 0, api.Clock{Set: true}, disc.Told{What: disc.Set, Step: 5}, api.OK}, {api.Clock{Freq: 7, Left: 8, Last: 9, Poll: 10}, -5, -3, api.Clock{Freq: 7, Last: -3, Poll: 10, Set: true}, disc.Told{What: disc.Set, Step: -5}, api.OK},
		{api.Clock{}, mostTime, mostTime, api.Clock{Last: mostTime, Set: true}, disc.Told{What: disc.Set, Step: mostTime}, api.OK}, {api.Clock{}, -mostTime, -mostTime, api.Clock{Last: -mostTime, Set: true}, disc.Told{What: disc.Set, Step: -mostTime}, api.OK},
		{api.Clock{}, 0, 0, api.Clock{Set: true}, disc.Told{What: disc.Set}, api.OK}, {api.Clock{Left: 5}, steps + 1, 0, api.Clock{Set: true}, disc.Told{What: disc.Set, Step: steps + 1}, api.OK},
		// A panic, ahead of a time that is too early.
		{set, panics + 1, 5 * second, api.Clock{}, disc.Told{}, api.ErrPanic}, {set, -panics - 1, 5 * second, api.Clock{}, disc.Told{}, api.ErrPanic}, {set, panics + 1, 0, api.Clock{}, disc.Told{}, api.ErrPanic}, {set, mostTime, mostTime, api.Clock{}, disc.Told{}, api.ErrPanic}, {set, -mostTime, mostTime, api.Clock{}, disc.Told{}, api.ErrPanic},
		{set, 0, 5*second - 1, api.Clock{}, disc.Told{}, api.ErrArg}, {set, panics, 5*second - 1, api.Clock{}, disc.Told{}, api.ErrArg}, {set, steps, -mostTime, api.Clock{}, disc.Told{}, api.ErrArg},
		// A step.
		{set, panics, 5 * second, api.Clock{Freq: 100, Last: 5 * second, Poll: 6, Set: true}, disc.Told{What: disc.Stepped, Step: panics}, api.OK}, {set, -panics, 6 * second, api.Clock{Freq: 100, Last: 6 * second, Poll: 6, Set: true}, disc.Told{What: disc.Stepped, Step: -panics}, api.OK},
		{set, steps + 1, mostTime, api.Clock{Freq: 100, Last: mostTime, Poll: 6, Set: true}, disc.Told{What: disc.Stepped, Step: steps + 1}, api.OK}, {set, -steps - 1, 5 * second, api.Clock{Freq: 100, Last: 5 * second, Poll: 6, Set: true}, disc.Told{What: disc.Stepped, Step: -steps - 1}, api.OK},
		// What is slewed, without a second gone by: the rate stays.
		{set, steps, 5 * second, api.Clock{Freq: 100, Left: steps, Last: 5 * second, Poll: 6, Set: true}, disc.Told{What: disc.Slewed}, api.OK}, {set, -steps, 6*second - 1, api.Clock{Freq: 100, Left: -steps, Last: 6*second - 1, Poll: 6, Set: true}, disc.Told{What: disc.Slewed}, api.OK},
		{set, 0, mostTime, api.Clock{Freq: 100, Last: mostTime, Poll: 6, Set: true}, disc.Told{What: disc.Slewed}, api.OK},
		// 549755814 / 1024 / 1024 is 524; of 1024 seconds and more it is 536870.
		{set, steps, 6 * second, api.Clock{Freq: 100 + 524, Left: steps, Last: 6 * second, Poll: 6, Set: true}, disc.Told{What: disc.Slewed}, api.OK}, {set, -steps, 7*second - 1, api.Clock{Freq: 100 - 524, Left: -steps, Last: 7*second - 1, Poll: 6, Set: true}, disc.Told{What: disc.Slewed}, api.OK},
		{set, steps, 1028 * second, api.Clock{Freq: 100 + 536346, Left: steps, Last: 1028 * second, Poll: 6, Set: true}, disc.Told{What: disc.Slewed}, api.OK}, {set, steps, 1029 * second, api.Clock{Freq: 100 + 536870, Left: steps, Last: 1029 * second, Poll: 6, Set: true}, disc.Told{What: disc.Slewed}, api.OK}, {set, steps, 1030 * second, api.Clock{Freq: 100 + 536870, Left: steps, Last: 1030 * second, Poll: 6, Set: true}, disc.Told{What: disc.Slewed}, api.OK}, {set, -steps, mostTime, api.Clock{Freq: 100 - 536870, Left: -steps, Last: mostTime, Poll: 6, Set: true}, disc.Told{What: disc.Slewed}, api.OK},
		// Rounded towards 0, the change alone: of 16 seconds and a t of 16, 15 comes to nothing and 16 to 1.
		{api.Clock{Freq: -1, Set: true}, 15, 16 * second, api.Clock{Freq: -1, Left: 15, Last: 16 * second, Set: true}, disc.Told{What: disc.Slewed}, api.OK}, {api.Clock{Freq: 1, Set: true}, -15, 16 * second, api.Clock{Freq: 1, Left: -15, Last: 16 * second, Set: true}, disc.Told{What: disc.Slewed}, api.OK},
		{api.Clock{Set: true}, 16, 16 * second, api.Clock{Freq: 1, Left: 16, Last: 16 * second, Set: true}, disc.Told{What: disc.Slewed}, api.OK}, {api.Clock{Set: true}, 15, 16 * second, api.Clock{Left: 15, Last: 16 * second, Set: true}, disc.Told{What: disc.Slewed}, api.OK}, {api.Clock{Set: true}, -16, 100 * second, api.Clock{Freq: -1, Left: -16, Last: 100 * second, Set: true}, disc.Told{What: disc.Slewed}, api.OK}, {api.Clock{Set: true}, -31, 100 * second, api.Clock{Freq: -1, Left: -31, Last: 100 * second, Set: true}, disc.Told{What: disc.Slewed}, api.OK},
		// No further than Freq may go.
		{api.Clock{Freq: mostFreq, Set: true}, 16, 16 * second, api.Clock{Freq: mostFreq, Left: 16, Last: 16 * second, Set: true}, disc.Told{What: disc.Slewed}, api.OK}, {api.Clock{Freq: mostFreq - 1, Set: true}, 16, 16 * second, api.Clock{Freq: mostFreq, Left: 16, Last: 16 * second, Set: true}, disc.Told{What: disc.Slewed}, api.OK}, {api.Clock{Freq: -mostFreq, Set: true}, -16, 16 * second, api.Clock{Freq: -mostFreq, Left: -16, Last: 16 * second, Set: true}, disc.Told{What: disc.Slewed}, api.OK},
		{api.Clock{Set: true}, steps, 16 * second, api.Clock{Freq: mostFreq, Left: steps, Last: 16 * second, Set: true}, disc.Told{What: disc.Slewed}, api.OK}, {api.Clock{Freq: mostFreq, Set: true}, -steps, 16 * second, api.Clock{Freq: -mostFreq, Left: -steps, Last: 16 * second, Set: true}, disc.Told{What: disc.Slewed}, api.OK}, {api.Clock{Freq: mostFreq, Set: true}, -16, 16 * second, api.Clock{Freq: mostFreq - 1, Left: -16, Last: 16 * second, Set: true}, disc.Told{What: disc.Slewed}, api.OK},
		// The longest time there is.
		{api.Clock{Last: -mostTime, Poll: 17, Set: true}, steps, mostTime, api.Clock{Freq: 262, Left: steps, Last: mostTime, Poll: 17, Set: true}, disc.Told{What: disc.Slewed}, api.OK}, {api.Clock{Last: -mostTime, Poll: 17, Set: true}, -1 << 21, mostTime, api.Clock{Freq: -1, Left: -1 << 21, Last: mostTime, Poll: 17, Set: true}, disc.Told{What: disc.Slewed}, api.OK},
	} {
		if got, told, e := disc.Update(c.c, c.offset, c.at); got != c.want || told != c.told || e != c.e {
			t.Errorf("Update(%+v, %d, %d) = %+v, %+v, %v, want %+v, %+v, %v", c.c, c.offset, c.at, got, told, e, c.want, c.told, c.e)
		}
		wantUpdate(t, c.c, c.offset, c.at)
	}
}

func TestUpdateWrong(t *testing.T) {
	look := func(c api.Clock, offset, at int64) {
		if got, told, e := disc.Update(c, offset, at); got != (api.Clock{}) || told != (disc.Told{}) || e != api.ErrArg {
			t.Errorf("Update(%+v, %d, %d) = %+v, %+v, %v", c, offset, at, got, told, e)
		}
	}
	for _, c := range wrongs() {
		for _, n := range append(times(), beyond()...) {
			look(c, n, 0)
			look(c, 0, n)
			look(c, panics+1, n)
		}
	}
	for _, n := range beyond() {
		for _, c := range []api.Clock{{}, {Set: true}, {Freq: mostFreq, Left: mostTime, Last: mostTime, Poll: 17, Set: true}} {
			for _, m := range append(times(), beyond()...) {
				look(c, n, m)
				look(c, m, n)
			}
		}
	}
}

// A state just within its bounds may be.
func TestUpdateAtBounds(t *testing.T) {
	for _, c := range []api.Clock{{Freq: mostFreq}, {Freq: -mostFreq}, {Left: mostTime}, {Left: -mostTime}, {Last: mostTime}, {Last: -mostTime}, {Poll: 17}, {Freq: -mostFreq, Left: mostTime, Last: -mostTime, Poll: 17}} {
		for _, set := range []bool{false, true} {
			c.Set = set
			if d, _, e := disc.Update(c, 0, mostTime); e != api.OK || d.Freq != c.Freq || d.Left != 0 || d.Last != mostTime || d.Poll != c.Poll || !d.Set {
				t.Errorf("Update(%+v) = %+v, %v", c, d, e)
			}
			if d, _, e := disc.Slew(c, 0); e != api.OK || d != c {
				t.Errorf("Slew(%+v, 0) = %+v, %v", c, d, e)
			}
		}
	}
}

func TestUpdateEdges(t *testing.T) {
	for _, offset := range append(times(), beyond()...) {
		for _, at := range append(times(), beyond()...) {
			for _, last := range times() {
				for _, poll := range []int{0, 6, 17} {
					wantUpdate(t, api.Clock{Freq: 1000, Left: 5, Last: last, Poll: poll, Set: true}, offset, at)
				}
				wantUpdate(t, api.Clock{Freq: -mostFreq, Left: 5, Last: last, Poll: 3}, offset, at)
			}
		}
	}
}

func TestUpdateByChance(t *testing.T) {
	r := rand.New(rand.NewSource(161))
	slewed := 0
	for range 60000 {
		c, offset := anyClock(r), anyTime(r)>>r.Intn(61)
		if r.Intn(2) == 0 {
			offset = anySlewed(r)
		}
		at := anyTime(r)
		if r.Intn(2) == 0 {
			at = c.Last + r.Int63n(1<<(33+r.Intn(24)))
		}
		wantUpdate(t, c, offset, at)
		if _, told, _ := disc.Update(c, offset, at); told.What == disc.Slewed {
			slewed++
		}
	}
	if slewed < 10000 {
		t.Errorf("just %d were slewed", slewed)
	}
}

// P16.2: Slew.

func TestSlew(t *testing.T) {
	for _, c := range []struct {
		c       api.Clock
		seconds int
		left    int64
		moved   int64
	}{
		{api.Clock{Left: 640}, 1, 630, 10}, {api.Clock{Left: 640}, 0, 640, 0}, {api.Clock{}, 4096, 0, 0}, {api.Clock{Left: 640}, 2, 621, 19}, {api.Clock{Left: -640}, 2, -621, -19},
		// Below 64 all of it is moved; at 64 one.
		{api.Clock{Left: 64}, 1, 63, 1}, {api.Clock{Left: 63}, 1, 0, 63}, {api.Clock{Left: 1}, 1, 0, 1}, {api.Clock{Left: -63}, 1, 0, -63}, {api.Clock{Left: -64}, 1, -63, -1}, {api.Clock{Left: -1}, 1, 0, -1}, {api.Clock{Left: 65}, 1, 64, 1}, {api.Clock{Left: 65}, 2, 63, 2}, {api.Clock{Left: 65}, 3, 0, 65}, {api.Clock{Left: -65}, 3, 0, -65},
		{api.Clock{Left: 127}, 1, 126, 1}, {api.Clock{Left: 128}, 1, 126, 2}, {api.Clock{Left: -127}, 1, -126, -1}, {api.Clock{Left: -128}, 1, -126, -2}, {api.Clock{Left: mostTime}, 1, mostTime - 1<<54, 1 << 54}, {api.Clock{Left: -mostTime}, 1, -mostTime + 1<<54, -1 << 54},
		{api.Clock{Freq: 7}, 1, 0, 7}, {api.Clock{Freq: -7, Left: 640}, 2, 621, 5}, {api.Clock{Freq: mostFreq}, 4096, 0, mostFreq * 4096}, {api.Clock{Freq: -mostFreq, Left: mostTime}, 4096, 0, mostTime - mostFreq*4096}, {api.Clock{Freq: mostFreq, Left: mostTime}, 4096, 0, mostTime + mostFreq*4096}, {api.Clock{Freq: -mostFreq, Left: -mostTime}, 4096, 0, -mostTime - mostFreq*4096},
	} {
		for _, set := range []bool{false, true} {
			c.c.Poll, c.c.Last, c.c.Set = 7, -99, set
			want := c.c
			want.Left = c.left
			if got, moved, e := disc.Slew(c.c, c.seconds); got != want || moved != c.moved || e != api.OK {
				t.Errorf("Slew(%+v, %d) = %+v, %d, %v, want %+v, %d", c.c, c.seconds, got, moved, e, want, c.moved)
			}
			wantSlew(t, c.c, c.seconds)
		}
	}
}

func TestSlewWrong(t *testing.T) {
	look := func(c api.Clock, seconds int) {
		if got, moved, e := disc.Slew(c, seconds); got != (api.Clock{}) || moved != 0 || e != api.ErrArg {
			t.Errorf("Slew(%+v, %d) = %+v, %d, %v", c, seconds, got, moved, e)
		}
	}
	for _, c := range wrongs() {
		for _, seconds := range []int{0, 1, 4096, 4097, -1} {
			look(c, seconds)
		}
	}
	for _, seconds := range []int{-1, -2, 4097, 5000, math.MaxInt, math.MinInt} {
		for _, c := range []api.Clock{{}, {Freq: 5, Left: 640, Poll: 6, Set: true}} {
			look(c, seconds)
		}
	}
}

func TestSlewByChance(t *testing.T) {
	r := rand.New(rand.NewSource(162))
	for range 3000 {
		wantSlew(t, anyClock(r), r.Intn(4097)>>r.Intn(13))
	}
	for _, left := range times() {
		for _, seconds := range []int{0, 1, 2, 3, 100, 4095, 4096} {
			wantSlew(t, api.Clock{Freq: 3, Left: left}, seconds)
		}
	}
}
