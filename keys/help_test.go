package keys_test

import (
	"crypto/sha256"
	"encoding/binary"
	"math"
	"math/rand"
	"slices"
)

// session is a key number's place: between whom, and with which cookie.
type session struct{ src, dst, cookie uint32 }

// ring is a session in which the key numbers from one on come round: behind tail hops the first one is met that comes again, each round hops later.
type ring struct {
	session
	first       uint32
	tail, round int
}

// rings are such sessions, which were looked for.
func rings() []ring {
	return []ring{
		{session{1, 2, 5875102}, 4150769082, 0, 1},
		{session{1, 2, 5875102}, 3, 20, 1},
		{session{1, 2, 1795728}, 3687169369, 0, 2},
		{session{1, 2, 1795728}, 3, 39, 2},
		{session{1, 2, 4337209}, 3, 9, 12},
		{session{1, 2, 2441518}, 3, 172, 13},
		{session{1, 2, 3519205}, 3, 7, 31},
		{session{1, 2, 2510874}, 878007359, 0, 32},
	}
}

// edges are numbers each byte of which tells where it stands, and the least and greatest ones.
func edges() []uint32 {
	return []uint32{0, 1, 255, 256, 0x01020304, 0x80000000, 0xfffefdfc, math.MaxInt32, math.MaxUint32}
}

// anyOf is a number by chance, often one of the edges.
func anyOf(r *rand.Rand) uint32 {
	if r.Intn(3) == 0 {
		return edges()[r.Intn(len(edges()))]
	}
	return r.Uint32()
}

// eachFour does something with four numbers: with edges of each kind, and by chance.
func eachFour(do func(a, b, c, d uint32)) {
	for _, n := range edges() {
		do(n, 0, 0, 0)
		do(0, n, 0, 0)
		do(0, 0, n, 0)
		do(0, 0, 0, n)
		do(n, n, n, n)
		do(1, 2, n, 3)
	}
	r := rand.New(rand.NewSource(111))
	for range 2000 {
		do(anyOf(r), anyOf(r), anyOf(r), anyOf(r))
	}
}

// bytesOf is some numbers with four bytes each, as the library writes them, and text behind them.
func bytesOf(text []byte, numbers ...uint32) []byte {
	var b []byte
	for _, n := range numbers {
		b = binary.BigEndian.AppendUint32(b, n)
	}
	return append(b, text...)
}

// keyOf is a session's key, word by word.
func keyOf(src, dst, id, cookie uint32) []byte {
	sum := sha256.Sum256(bytesOf(nil, src, dst, id, cookie))
	return sum[:16]
}

// nextOf is the next key number, word by word.
func nextOf(src, dst, id, cookie uint32) uint32 {
	return binary.BigEndian.Uint32(keyOf(src, dst, id, cookie)[:4])
}

// walk is a key number and the next ones, word by word: n in all.
func walk(s session, first uint32, n int) []uint32 {
	l := []uint32{first}
	for len(l) < n {
		l = append(l, nextOf(s.src, s.dst, l[len(l)-1], s.cookie))
	}
	return l
}

// sealOf is a Mac, word by word.
func sealOf(key, front []byte) []byte {
	sum := sha256.Sum256(slices.Concat(key, front))
	return sum[:16]
}

// cookieOf is the number of the first four bytes of a digest of numbers and text.
func cookieOf(text []byte, numbers ...uint32) uint32 {
	sum := sha256.Sum256(bytesOf(text, numbers...))
	return binary.BigEndian.Uint32(sum[:4])
}

// drawn is as many bytes as are said, the same ones in each run.
func drawn(seed int64, n int) []byte {
	b := make([]byte, n)
	rand.New(rand.NewSource(seed)).Read(b)
	return b
}

// texts are bytes of many lengths, and none.
func texts() [][]byte {
	l := [][]byte{nil, {}, {0}, {255}, []byte("face")}
	for _, n := range []int{4, 15, 16, 17, 32, 39, 40, 47, 48, 49, 55, 56, 63, 64, 65, 128, 1000, 8192, 70000} {
		l = append(l, drawn(int64(n), n))
	}
	return l
}

// kept is a copy of a list, with others behind its end, and what tells whether all of it is as it was.
func kept(l []byte) ([]byte, func() bool) {
	whole := slices.Concat(l, []byte{5, 255, 6, 1, 2, 3})
	before := slices.Clone(whole)
	return whole[:len(l)], func() bool { return slices.Equal(whole, before) }
}

// fill writes over all of a list's memory.
func fill[T uint32 | byte](l []T) {
	for i := range l[:cap(l)] {
		l[:cap(l)][i] = 0x5c
	}
}
