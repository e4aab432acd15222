package keys_test

import (
	"bytes"
	"encoding/hex"
	"math"
	"math/rand"
	"slices"
	"testing"

	"clepsydra/api"
	"clepsydra/keys"
)

// P11.1: Session, Next, List, Hops.

func TestSession(t *testing.T) {
	// The digest of sixteen noughts is known.
	if got := hex.EncodeToString(keys.Session(0, 0, 0, 0)); got != "374708fff7719dd5979ec875d56cd228" {
		t.Errorf("Session of noughts = %s", got)
	}
	if got := keys.Next(0, 0, 0, 0); got != 0x374708ff {
		t.Errorf("Next of noughts = %x", got)
	}
	eachFour(func(a, b, c, d uint32) {
		if got, want := keys.Session(a, b, c, d), keyOf(a, b, c, d); !bytes.Equal(got, want) {
			t.Fatalf("Session(%d, %d, %d, %d) = %x, want %x", a, b, c, d, got, want)
		}
		if got, want := keys.Next(a, b, c, d), nextOf(a, b, c, d); got != want {
			t.Fatalf("Next(%d, %d, %d, %d) = %d, want %d", a, b, c, d, got, want)
		}
	})
}

func TestList(t *testing.T) {
	r := rand.New(rand.NewSource(112))
	for n := 1; n <= 256; n++ {
		s, first := session{anyOf(r), anyOf(r), anyOf(r)}, anyOf(r)
		got, e := keys.List(s.src, s.dst, first, s.cookie, n)
		if want := walk(s, first, n); e != api.OK || !slices.Equal(got, want) {
			t.Fatalf("List of %d from %d of %v = %v, %v, want %v", n, first, s, got, e, want)
		}
	}
	// Numbers that come round stand there as often as they come.
	for _, x := range rings() {
		got, e := keys.List(x.src, x.dst, x.first, x.cookie, 256)
		if want := walk(x.session, x.first, 256); e != api.OK || !slices.Equal(got, want) || got[x.tail] != got[x.tail+x.round] {
			t.Fatalf("List of %v = %v, %v, want %v", x, got, e, want)
		}
	}
}

func TestListWrong(t *testing.T) {
	for _, n := range []int{math.MinInt, math.MinInt32, -256, -1, 0, 257, 258, 1 << 31, 1<<32 + 1, math.MaxInt - 1, math.MaxInt} {
		for _, id := range edges() {
			if got, e := keys.List(1, 2, id, 4, n); e != api.ErrArg || len(got) > 0 {
				t.Errorf("List of %d = %v, %v", n, got, e)
			}
		}
	}
}

// hopsAs fails, if Hops does not answer word by word.
func hopsAs(t *testing.T, s session, id, last uint32, most int) api.Errno {
	t.Helper()
	want, code := 0, api.ErrArg
	if most >= 0 && most <= 256 {
		code = api.ErrHops
		if at := slices.Index(walk(s, id, most+1), last); at >= 0 {
			want, code = at, api.OK
		}
	}
	got, e := keys.Hops(s.src, s.dst, id, s.cookie, last, most)
	if got != want || e != code {
		t.Fatalf("Hops from %d to %d of %v, of at most %d = %d, %v, want %d, %v", id, last, s, most, got, e, want, code)
	}
	return e
}

func TestHops(t *testing.T) {
	r := rand.New(rand.NewSource(113))
	count := map[api.Errno]int{}
	for range 400 {
		s, id := session{anyOf(r), anyOf(r), anyOf(r)}, anyOf(r)
		l := walk(s, id, 258)
		at := r.Intn(258)
		for _, most := range []int{0, at - 1, at, at + 1, 256, r.Intn(257)} {
			count[hopsAs(t, s, id, l[at], most)]++
		}
		count[hopsAs(t, s, id, r.Uint32(), 256)]++
	}
	for _, code := range []api.Errno{api.OK, api.ErrHops, api.ErrArg} {
		if count[code] < 5 {
			t.Errorf("%v is met but %d times", code, count[code])
		}
	}
}

func TestHopsAtTheLimit(t *testing.T) {
	l := walk(session{1, 2, 4}, 3, 258)
	for _, c := range []struct {
		last uint32
		most int
		want int
		code api.Errno
	}{
		{l[0], 0, 0, api.OK}, {l[0], 256, 0, api.OK}, {l[1], 0, 0, api.ErrHops}, {l[1], 1, 1, api.OK}, {l[2], 1, 0, api.ErrHops}, {l[255], 255, 255, api.OK}, {l[255], 254, 0, api.ErrHops},
		{l[256], 256, 256, api.OK}, {l[256], 255, 0, api.ErrHops}, {l[257], 256, 0, api.ErrHops}, {l[257], 257, 0, api.ErrArg}, {l[0], -1, 0, api.ErrArg}, {l[0], 257, 0, api.ErrArg},
	} {
		if got, e := keys.Hops(1, 2, 3, 4, c.last, c.most); got != c.want || e != c.code {
			t.Errorf("Hops to %d of at most %d = %d, %v, want %d, %v", c.last, c.most, got, e, c.want, c.code)
		}
	}
}

// Where numbers come round the fewest hops are told.
func TestHopsRound(t *testing.T) {
	for _, x := range rings() {
		l := walk(x.session, x.first, 257)
		for at, last := range l {
			want := at
			if at >= x.tail {
				want = x.tail + (at-x.tail)%x.round
			}
			for _, most := range []int{want, want + 1, at, 256} {
				if got, e := keys.Hops(x.src, x.dst, x.first, x.cookie, last, most); most <= 256 && (e != api.OK || got != want) {
					t.Fatalf("Hops to place %d of %v, of at most %d = %d, %v, want %d", at, x, most, got, e, want)
				}
			}
			if got, e := keys.Hops(x.src, x.dst, x.first, x.cookie, last, want-1); want > 0 && (e != api.ErrHops || got != 0) {
				t.Fatalf("Hops to place %d of %v, of at most %d = %d, %v", at, x, want-1, got, e)
			}
		}
	}
}

func TestHopsWrong(t *testing.T) {
	for _, most := range []int{math.MinInt, math.MinInt32, -257, -1, 257, 258, 1 << 31, 1 << 32, 1<<32 + 1, math.MaxInt - 1, math.MaxInt} {
		for _, last := range []uint32{3, keys.Next(1, 2, 3, 4), 0, 99} {
			if got, e := keys.Hops(1, 2, 3, 4, last, most); e != api.ErrArg || got != 0 {
				t.Errorf("Hops to %d of at most %d = %d, %v", last, most, got, e)
			}
		}
	}
}

// P11.2: Cookie, Bound.
func TestCookie(t *testing.T) {
	// The first one is of sixteen noughts, too.
	if got := keys.Cookie(0, 0, 0); got != 0x374708ff {
		t.Errorf("Cookie of noughts = %x", got)
	}
	l := texts()
	at := 0
	eachFour(func(client, server, seed, _ uint32) {
		if got, want := keys.Cookie(client, server, seed), cookieOf(nil, client, server, 0, seed); got != want {
			t.Fatalf("Cookie(%d, %d, %d) = %d, want %d", client, server, seed, got, want)
		}
		at++
		face := l[at%len(l)]
		if got, want := keys.Bound(client, server, seed, face), cookieOf(face, client, server, 1, seed); got != want {
			t.Fatalf("Bound(%d, %d, %d, %d bytes) = %d, want %d", client, server, seed, len(face), got, want)
		}
	})
}

// Of no face, too, a bound cookie is another one than that which is not bound.
func TestBoundToNothing(t *testing.T) {
	eachFour(func(client, server, seed, _ uint32) {
		plain := keys.Cookie(client, server, seed)
		if keys.Bound(client, server, seed, nil) == plain || keys.Bound(client, server, seed, nil) != keys.Bound(client, server, seed, []byte{}) {
			t.Fatalf("Bound(%d, %d, %d, nothing) = %d", client, server, seed, keys.Bound(client, server, seed, nil))
		}
	})
}

// P11.3: Mac, Sealed.
func TestMac(t *testing.T) {
	if got := hex.EncodeToString(keys.Mac(nil, nil)); got != "e3b0c44298fc1c149afbf4c8996fb924" {
		t.Errorf("Mac of nothing = %s", got)
	}
	if got := hex.EncodeToString(keys.Mac([]byte("a"), []byte("bc"))); got != "ba7816bf8f01cfea414140de5dae2223" {
		t.Errorf("Mac of abc = %s", got)
	}
	for _, key := range texts() {
		for _, front := range texts() {
			if got, want := keys.Mac(key, front), sealOf(key, front); !bytes.Equal(got, want) {
				t.Fatalf("Mac of %d and %d bytes = %x, want %x", len(key), len(front), got, want)
			}
		}
	}
}

func TestSealed(t *testing.T) {
	l := texts()
	at := 0
	eachFour(func(src, dst, id, cookie uint32) {
		at++
		front := l[at%(len(l)-1)]
		sum := sealOf(keyOf(src, dst, id, cookie), front)
		if !keys.Sealed(src, dst, id, cookie, front, sum) {
			t.Fatalf("Sealed(%d, %d, %d, %d, %d bytes, %x) is false", src, dst, id, cookie, len(front), sum)
		}
		for _, wrong := range []bool{
			keys.Sealed(src+1, dst, id, cookie, front, sum), keys.Sealed(src, dst-1, id, cookie, front, sum), keys.Sealed(src, dst, id^1<<31, cookie, front, sum), keys.Sealed(src, dst, id, cookie^1<<16, front, sum),
			src != dst && keys.Sealed(dst, src, id, cookie, front, sum), id != cookie && keys.Sealed(src, dst, cookie, id, front, sum),
			keys.Sealed(src, dst, id, cookie, append(slices.Clone(front), 0), sum), len(front) > 0 && keys.Sealed(src, dst, id, cookie, front[1:], sum),
		} {
			if wrong {
				t.Fatalf("of others than (%d, %d, %d, %d, %d bytes) %x is sealed", src, dst, id, cookie, len(front), sum)
			}
		}
	})
}

func TestSealedWrong(t *testing.T) {
	for _, front := range texts() {
		key := keys.Session(1, 2, 3, 4)
		sum := keys.Mac(key, front)
		wrongs := [][]byte{nil, {}, {0}, make([]byte, 16), append(slices.Clone(sum), 0), slices.Concat(sum, sum), slices.Concat([]byte{0}, sum), key, keys.Mac(nil, front)}
		for n := range 16 {
			wrongs = append(wrongs, sum[:n], sum[n+1:])
		}
		for bit := range 128 {
			other := slices.Clone(sum)
			other[bit/8] ^= 1 << (bit % 8)
			wrongs = append(wrongs, other)
		}
		for _, wrong := range append(wrongs, keys.Mac(front, key)) {
			// Where there is no front the last one of them is the Mac itself.
			if !bytes.Equal(wrong, sum) && keys.Sealed(1, 2, 3, 4, front, wrong) {
				t.Fatalf("of %d bytes %x is sealed, and the Mac is %x", len(front), wrong, sum)
			}
		}
	}
}

// What the chapter names.
func TestExamples(t *testing.T) {
	if l, e := keys.List(1, 2, 3, 4, 2); e != api.OK || !slices.Equal(l, []uint32{3, keys.Next(1, 2, 3, 4)}) {
		t.Errorf("List = %v, %v", l, e)
	}
	if n, e := keys.Hops(1, 2, 3, 4, 3, 0); n != 0 || e != api.OK {
		t.Errorf("Hops = %d, %v", n, e)
	}
}
