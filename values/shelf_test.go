package values_test

import (
	"math"
	"math/rand"
	"slices"
	"testing"

	"clepsydra/api"
	"clepsydra/values"
)

// P12.2: New, Put, Get, Sorts.

// shelfOf is an empty shelf of some room.
func shelfOf(t *testing.T, room int) *values.Shelf {
	t.Helper()
	s, e := values.New(room)
	if e != api.OK || s == nil {
		t.Fatalf("New(%d) = %v, %v", room, s, e)
	}
	return s
}

// wantShelf fails, if a shelf has not just some sorts, each with its value.
func wantShelf(t *testing.T, s *values.Shelf, want map[int]api.Value) {
	t.Helper()
	var sorts []int
	for sort := range want {
		sorts = append(sorts, sort)
	}
	slices.Sort(sorts)
	if got := s.Sorts(); !slices.Equal(got, sorts) {
		t.Fatalf("Sorts = %v, want %v", got, sorts)
	}
	for sort, v := range want {
		if got, e := s.Get(sort); e != api.OK || !same(got, v) {
			t.Fatalf("Get(%d) = %v, %v, want %v", sort, got, e, v)
		}
	}
	for _, sort := range []int{math.MinInt, -1, 0, 1, 5, 1 << 40, math.MaxInt} {
		if _, there := want[sort]; there {
			continue
		}
		if got, e := s.Get(sort); e != api.ErrNone || !isZero(got) {
			t.Fatalf("Get(%d) = %v, %v", sort, got, e)
		}
	}
}

func TestNew(t *testing.T) {
	for _, room := range []int{math.MinInt, -64, -1, 0, 65, 66, 128, 1 << 32, 1<<32 + 1, math.MaxInt} {
		if s, e := values.New(room); s != nil || e != api.ErrArg {
			t.Errorf("New(%d) = %v, %v", room, s, e)
		}
	}
	for room := 1; room <= 64; room++ {
		s := shelfOf(t, room)
		want := map[int]api.Value{}
		wantShelf(t, s, want)
		for i := range room {
			// Sorts that do not come rising.
			sort := (i * 37) % 101
			want[sort] = api.Value{TS: uint32(i), FS: 7, Data: []byte{byte(i)}}
			if e := s.Put(sort, want[sort]); e != api.OK {
				t.Fatalf("Put of sort %d of %d: %v", i, room, e)
			}
			wantShelf(t, s, want)
		}
		if e := s.Put(102, api.Value{FS: 9}); e != api.ErrFull {
			t.Errorf("Put beyond a room of %d: %v", room, e)
		}
		wantShelf(t, s, want)
		// There is room for newer values all the same.
		want[0] = api.Value{TS: 1000, FS: 7}
		if e := s.Put(0, want[0]); e != api.OK {
			t.Errorf("Put of a newer one: %v", e)
		}
		wantShelf(t, s, want)
	}
}

// Two shelves know nothing of each other.
func TestNewTwice(t *testing.T) {
	s, other := shelfOf(t, 2), shelfOf(t, 2)
	s.Put(1, api.Value{FS: 1})
	wantShelf(t, other, nil)
	other.Put(1, api.Value{TS: 5})
	wantShelf(t, s, map[int]api.Value{1: {FS: 1}})
	wantShelf(t, other, map[int]api.Value{1: {TS: 5}})
}

func TestNoShelf(t *testing.T) {
	for _, s := range []*values.Shelf{nil, {}, new(values.Shelf)} {
		for _, sort := range []int{math.MinInt, -1, 0, 5, math.MaxInt} {
			for _, v := range []api.Value{{}, {TS: 1, FS: 1, Data: []byte{1}}, {Data: make([]byte, 2049)}, {Sig: make([]byte, 129)}} {
				if e := s.Put(sort, v); e != api.ErrNil {
					t.Errorf("Put: %v", e)
				}
			}
			if v, e := s.Get(sort); e != api.ErrNil || !isZero(v) {
				t.Errorf("Get = %v, %v", v, e)
			}
		}
		if l := s.Sorts(); len(l) > 0 {
			t.Errorf("Sorts = %v", l)
		}
	}
}

func TestPutSorts(t *testing.T) {
	s := shelfOf(t, 64)
	want := map[int]api.Value{}
	for i, sort := range []int{math.MaxInt, 0, 1 << 32, 5, 1<<32 + 5, 1 << 31, math.MaxInt - 1, 255, 256} {
		want[sort] = api.Value{TS: uint32(i), Data: []byte{byte(i)}, Sig: []byte{1, byte(i)}}
		if e := s.Put(sort, want[sort]); e != api.OK {
			t.Errorf("Put(%d): %v", sort, e)
		}
		wantShelf(t, s, want)
	}
	for _, sort := range []int{-1, -5, -256, math.MinInt32, math.MinInt} {
		if e := s.Put(sort, api.Value{FS: 9}); e != api.ErrArg {
			t.Errorf("Put(%d): %v", sort, e)
		}
		wantShelf(t, s, want)
	}
}

func TestPutSizes(t *testing.T) {
	for _, c := range []struct {
		data, sig int
		want      api.Errno
	}{
		{0, 0, api.OK}, {2047, 127, api.OK}, {2048, 128, api.OK}, {2048, 0, api.OK}, {0, 128, api.OK}, {2049, 0, api.ErrLong}, {0, 129, api.ErrLong}, {2049, 129, api.ErrLong}, {2048, 129, api.ErrLong},
		{2049, 128, api.ErrLong}, {4096, 1, api.ErrLong}, {1, 2048, api.ErrLong}, {1 << 20, 1 << 20, api.ErrLong},
	} {
		s, want := shelfOf(t, 2), map[int]api.Value{}
		v := api.Value{TS: 1, FS: 2, Data: drawn(1, c.data), Sig: drawn(2, c.sig)}
		if e := s.Put(5, v); e != c.want {
			t.Errorf("Put of %d and %d bytes: %v, want %v", c.data, c.sig, e, c.want)
		}
		if c.want == api.OK {
			want[5] = v
		}
		wantShelf(t, s, want)
	}
}

// Where several errors apply the first one that is named is told, and nothing has changed.
func TestPutErrors(t *testing.T) {
	want := map[int]api.Value{5: {TS: 3, FS: 7, Data: []byte{1}, Sig: []byte{2}}, 9: {}}
	s := shelfOf(t, 2)
	for sort, v := range want {
		s.Put(sort, v)
	}
	long, longSig := make([]byte, 2049), make([]byte, 129)
	for _, c := range []struct {
		sort int
		v    api.Value
		want api.Errno
	}{
		{-1, api.Value{}, api.ErrArg}, {-1, api.Value{Data: long}, api.ErrArg}, {-1, api.Value{FS: 9, Sig: longSig}, api.ErrArg}, {math.MinInt, api.Value{FS: 9}, api.ErrArg},
		{5, api.Value{Data: long}, api.ErrLong}, {5, api.Value{TS: 3, FS: 7, Sig: longSig}, api.ErrLong}, {5, api.Value{FS: 9, Data: long}, api.ErrLong}, {6, api.Value{FS: 9, Data: long}, api.ErrLong}, {6, api.Value{Sig: longSig}, api.ErrLong},
		{5, want[5], api.ErrOld}, {5, api.Value{TS: 2, FS: 7}, api.ErrOld}, {5, api.Value{TS: 3, FS: 7}, api.ErrOld}, {5, api.Value{TS: math.MaxUint32, FS: 6}, api.ErrOld}, {5, api.Value{}, api.ErrOld}, {9, api.Value{}, api.ErrOld}, {9, api.Value{Data: []byte{1}}, api.ErrOld},
		{6, api.Value{}, api.ErrFull}, {6, api.Value{TS: 3, FS: 7}, api.ErrFull}, {0, api.Value{FS: math.MaxUint32}, api.ErrFull}, {math.MaxInt, api.Value{FS: 1}, api.ErrFull},
	} {
		if e := s.Put(c.sort, c.v); e != c.want {
			t.Errorf("Put(%d, TS %d, FS %d, %d and %d bytes): %v, want %v", c.sort, c.v.TS, c.v.FS, len(c.v.Data), len(c.v.Sig), e, c.want)
		}
		wantShelf(t, s, want)
	}
	for sort, v := range map[int]api.Value{5: {TS: 4, FS: 7, Sig: []byte{5}}, 9: {TS: 1, Data: []byte{6}}} {
		if e := s.Put(sort, v); e != api.OK {
			t.Errorf("Put of a newer one: %v", e)
		}
		want[sort] = v
		wantShelf(t, s, want)
	}
}

// Whatever comes by chance, the shelf has what a list of what was given tells.
func TestPutByChance(t *testing.T) {
	count := map[api.Errno]int{}
	for seed := range int64(200) {
		r := rand.New(rand.NewSource(seed))
		room := 1 + r.Intn(8)
		s, want := shelfOf(t, room), map[int]api.Value{}
		for range 60 {
			sort, v := r.Intn(10)-1, api.Value{TS: uint32(r.Intn(4)), FS: uint32(r.Intn(4)), Data: drawn(r.Int63(), r.Intn(5)), Sig: drawn(r.Int63(), r.Intn(5))}
			if r.Intn(10) == 0 {
				v.Data = make([]byte, 2048+r.Intn(3))
			}
			if r.Intn(10) == 0 {
				v.Sig = make([]byte, 128+r.Intn(3))
			}
			code := codeOf(want, room, sort, v)
			if e := s.Put(sort, v); e != code {
				t.Fatalf("Put(%d, %v) on %v: %v, want %v", sort, v, want, e, code)
			}
			if code == api.OK {
				want[sort] = v
			}
			count[code]++
			wantShelf(t, s, want)
		}
	}
	for _, code := range []api.Errno{api.OK, api.ErrArg, api.ErrLong, api.ErrOld, api.ErrFull} {
		if count[code] < 100 {
			t.Errorf("%v is met but %d times", code, count[code])
		}
	}
}

// codeOf is what Put should answer, word by word.
func codeOf(held map[int]api.Value, room, sort int, v api.Value) api.Errno {
	old, there := held[sort]
	switch {
	case sort < 0:
		return api.ErrArg
	case len(v.Data) > 2048 || len(v.Sig) > 128:
		return api.ErrLong
	case there && !isNewer(v, old):
		return api.ErrOld
	case !there && len(held) >= room:
		return api.ErrFull
	}
	return api.OK
}

// What the chapter names.
func TestExample(t *testing.T) {
	s := shelfOf(t, 1)
	v := api.Value{TS: 1, FS: 2}
	for i, want := range []api.Errno{s.Put(5, v), s.Put(6, v), s.Put(5, v)} {
		if code := []api.Errno{api.OK, api.ErrFull, api.ErrOld}[i]; want != code {
			t.Errorf("Put %d: %v, want %v", i, want, code)
		}
	}
}
