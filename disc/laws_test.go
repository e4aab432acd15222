package disc_test

import (
	"math/rand"
	"testing"

	"clepsydra/api"
	"clepsydra/disc"
)

// P16.3: Freq is never beyond its bounds, and an update by 0 changes it not.
func TestFreqBounded(t *testing.T) {
	r := rand.New(rand.NewSource(163))
	for range 300 {
		c := api.Clock{Poll: r.Intn(8), Set: true}
		sign := int64(r.Intn(2)*2 - 1)
		for range 200 {
			offset, at := sign*r.Int63n(steps+1), c.Last+r.Int63n(100000*second)
			d, told, e := disc.Update(c, offset, at)
			if e != api.OK || told.What != disc.Slewed || !within(d.Freq, mostFreq) {
				t.Fatalf("Update(%+v, %d, %d) = %+v, %+v, %v", c, offset, at, d, told, e)
			}
			c = d
			if d, _, e := disc.Update(c, 0, at+r.Int63n(100000*second)); e != api.OK || d.Freq != c.Freq || d.Left != 0 {
				t.Fatalf("Update(%+v, 0) = %+v, %v", c, d, e)
			}
		}
	}
}

// P16.4: the clock moves by what Left has lost, and the seconds times Freq; Left's worth never grows, and its sign does not change.
func TestMovedIsLost(t *testing.T) {
	r := rand.New(rand.NewSource(164))
	for range 3000 {
		c, seconds := anyClock(r), r.Intn(4097)>>r.Intn(13)
		d, moved, e := disc.Slew(c, seconds)
		if e != api.OK || moved != c.Left-d.Left+int64(seconds)*c.Freq {
			t.Fatalf("Slew(%+v, %d) = %+v, %d, %v", c, seconds, d, moved, e)
		}
		if c.Left >= 0 && (d.Left < 0 || d.Left > c.Left) || c.Left <= 0 && (d.Left > 0 || d.Left < c.Left) {
			t.Fatalf("Slew(%+v, %d) = %+v", c, seconds, d)
		}
		if d.Left = c.Left; d != c {
			t.Fatalf("Slew(%+v, %d) = %+v, but for Left", c, seconds, d)
		}
	}
}

// P16.5: seconds in two parts are as all of them in one.
func TestTwoParts(t *testing.T) {
	r := rand.New(rand.NewSource(165))
	for range 3000 {
		c, seconds := anyClock(r), r.Intn(4097)
		first := r.Intn(seconds + 1)
		whole, moved, e := disc.Slew(c, seconds)
		half, ahead, e1 := disc.Slew(c, first)
		rest, behind, e2 := disc.Slew(half, seconds-first)
		if e != api.OK || e1 != api.OK || e2 != api.OK || rest != whole || ahead+behind != moved {
			t.Fatalf("Slew(%+v) by %d = %+v, %d; by %d and the rest %+v, %d", c, seconds, whole, moved, first, rest, ahead+behind)
		}
	}
}

// P16.6: an offset of the other sign changes all by the other sign.
func TestOtherSign(t *testing.T) {
	r := rand.New(rand.NewSource(166))
	other := func(c api.Clock) api.Clock {
		c.Freq, c.Left = -c.Freq, -c.Left
		return c
	}
	for range 20000 {
		c, offset, at := anyClock(r), anyTime(r)>>r.Intn(61), anyTime(r)
		if r.Intn(2) == 0 {
			offset, at = anySlewed(r), min(c.Last+r.Int63n(100000*second), mostTime)
		}
		d, told, e := disc.Update(c, offset, at)
		got, turned, err := disc.Update(other(c), -offset, at)
		if err != e || got != other(d) || turned.What != told.What || turned.Step != -told.Step {
			t.Fatalf("Update(%+v, %d, %d) = %+v, %+v, %v, by the other sign %+v, %+v, %v", c, offset, at, d, told, e, got, turned, err)
		}
	}
	for range 1000 {
		c, seconds := anyClock(r), r.Intn(4097)
		d, moved, e := disc.Slew(c, seconds)
		if got, n, err := disc.Slew(other(c), seconds); err != e || got != other(d) || n != -moved {
			t.Fatalf("Slew(%+v, %d) = %+v, %d, by the other sign %+v, %d, %v", c, seconds, d, moved, got, n, err)
		}
	}
}

// P16.7: within 4096 seconds an offset that is slewed is gone.
func TestSlewedIsGone(t *testing.T) {
	r := rand.New(rand.NewSource(167))
	for i := range 3000 {
		offset := anySlewed(r)
		switch i {
		case 0:
			offset = steps
		case 1:
			offset = -steps
		}
		c, told, e := disc.Update(api.Clock{Set: true, Freq: anyClock(r).Freq, Poll: r.Intn(18)}, offset, 0)
		if e != api.OK || told.What != disc.Slewed || c.Left != offset {
			t.Fatalf("Update by %d = %+v, %+v, %v", offset, c, told, e)
		}
		if d, moved, e := disc.Slew(c, 4096); e != api.OK || d.Left != 0 || moved != offset+4096*c.Freq {
			t.Fatalf("Slew(%+v, 4096) = %+v, %d, %v", c, d, moved, e)
		}
	}
}

// The chapter's examples.
func TestExamples(t *testing.T) {
	c, told, e := disc.Update(api.Clock{Poll: 6}, 5, 0)
	if c != (api.Clock{Poll: 6, Set: true}) || told != (disc.Told{What: disc.Set, Step: 5}) || e != api.OK {
		t.Errorf("Update of an unset clock = %+v, %+v, %v", c, told, e)
	}
	if c, moved, e := disc.Slew(api.Clock{Left: 640}, 1); c != (api.Clock{Left: 630}) || moved != 10 || e != api.OK {
		t.Errorf("Slew of 640 = %+v, %d, %v", c, moved, e)
	}
}
