package values_test

import (
	"bytes"
	"encoding/binary"
	"math/rand"
	"slices"
	"testing"

	"clepsydra/api"
	"clepsydra/nat"
	"clepsydra/pkey"
)

// drawn is as many bytes as are said, the same ones in each run.
func drawn(seed int64, n int) []byte {
	b := make([]byte, n)
	rand.New(rand.NewSource(seed)).Read(b)
	return b
}

// keyOf is a key of two primes, the same one for the same seed and number of digits.
func keyOf(t *testing.T, seed int64, digits int) api.Key {
	t.Helper()
	k, _, e := pkey.Draw(drawn(seed, 60000), digits, 65537)
	if e != api.OK {
		t.Fatalf("no key: %v", e)
	}
	return k
}

// wrongKeys are keys that sign and check nothing, and which error they have.
func wrongKeys(t *testing.T) map[api.Errno][]api.Key {
	t.Helper()
	k := keyOf(t, 1, 216)
	even := pkey.Public(k)
	even.N[0]--
	return map[api.Errno][]api.Key{
		api.ErrKey: {{}, even, {N: k.N, E: nat.Of(1), D: k.D}, {N: k.N, E: k.E, D: k.N}, {N: slices.Repeat(k.N, 9), E: k.E, D: k.D}},
		api.ErrPad: {keyOf(t, 1, 208), keyOf(t, 2, 64), {N: nat.Of(64507), E: nat.Of(17), D: nat.Of(26353)}},
	}
}

// signedOf is what is signed of a value, as the library writes numbers.
func signedOf(v api.Value) []byte {
	b := binary.BigEndian.AppendUint32(nil, v.TS)
	b = binary.BigEndian.AppendUint32(b, v.FS)
	b = binary.BigEndian.AppendUint32(b, uint32(len(v.Data)))
	return append(b, v.Data...)
}

// isNewer tells whether a value is newer than another one: both numbers as one, of which FS is the greater part.
func isNewer(a, b api.Value) bool {
	return uint64(a.FS)<<32+uint64(a.TS) > uint64(b.FS)<<32+uint64(b.TS)
}

// sizes are how many bytes of Data are tried: some around those that digests' blocks end with, and up to the most.
func sizes() []int { return []int{0, 1, 2, 3, 4, 43, 44, 51, 52, 53, 255, 256, 1000, 2047, 2048} }

// edges are numbers each byte of which tells where it stands, and the least and greatest ones.
func edges() []uint32 {
	return []uint32{0, 1, 2, 255, 256, 0x01020304, 0x7fffffff, 0x80000000, 0xfffefdfc, 0xfffffffe, 0xffffffff}
}

// anyOf is a number by chance, often one of the edges.
func anyOf(r *rand.Rand) uint32 {
	if r.Intn(2) == 0 {
		return edges()[r.Intn(len(edges()))]
	}
	return r.Uint32()
}

// anyValue is a value by chance, with Data of a size that may be, and some Sig.
func anyValue(r *rand.Rand) api.Value {
	n := r.Intn(60)
	if r.Intn(3) == 0 {
		n = sizes()[r.Intn(len(sizes()))]
	}
	return api.Value{TS: anyOf(r), FS: anyOf(r), Data: drawn(r.Int63(), n), Sig: drawn(r.Int63(), r.Intn(129))}
}

// same tells whether two values have the same in each field.
func same(a, b api.Value) bool {
	return a.TS == b.TS && a.FS == b.FS && bytes.Equal(a.Data, b.Data) && bytes.Equal(a.Sig, b.Sig)
}

// isZero tells whether a value is none.
func isZero(v api.Value) bool { return same(v, api.Value{}) }

// kept is a copy of a list, with others behind its end, and what tells whether all of it is as it was.
func kept[T uint64 | byte](l []T) ([]T, func() bool) {
	whole := slices.Concat(l, []T{5, 255, 6, 1, 2, 3})
	before := slices.Clone(whole)
	return whole[:len(l)], func() bool { return slices.Equal(whole, before) }
}

// keptValue is the same of a value.
func keptValue(v api.Value) (api.Value, func() bool) {
	data, dataKept := kept(v.Data)
	sig, sigKept := kept(v.Sig)
	v.Data, v.Sig = data, sig
	return v, func() bool { return dataKept() && sigKept() }
}

// keptKey is the same of a key.
func keptKey(k api.Key) (api.Key, func() bool) {
	n, nKept := kept(k.N)
	e, eKept := kept(k.E)
	d, dKept := kept(k.D)
	return api.Key{N: n, E: e, D: d}, func() bool { return nKept() && eKept() && dKept() }
}

// fill writes over all of a list's memory.
func fill[T int | byte](l []T) {
	for i := range l[:cap(l)] {
		l[:cap(l)][i] = 0x5c
	}
}
