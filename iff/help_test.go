package iff_test

import (
	"crypto/sha256"
	"math/big"
	"math/rand"
	"slices"
	"testing"

	"clepsydra/api"
	"clepsydra/nat"
)

const ones = 1<<64 - 1

// The least composite of which no base from 2 to 37 tells, and its divisors; and one of which 37 alone tells.
const (
	passing     = "318665857834031151167461"
	passingLess = "399165290221"
	passingMore = "798330580441"
	toldBy37    = "3825123056546413051"
)

// bigOf is a number as the library has it.
func bigOf(a api.Nat) *big.Int {
	b, _ := nat.Write(a, 8*len(a))
	return new(big.Int).SetBytes(b)
}

// natOf is a number of the library as the program has it.
func natOf(b *big.Int) api.Nat { return nat.Read(b.Bytes()) }

// parse is the number of some digits of ten.
func parse(text string) *big.Int {
	b, ok := new(big.Int).SetString(text, 10)
	if !ok {
		panic("no number: " + text)
	}
	return b
}

// small are parameters of small numbers.
func small(p, q, g uint64) api.Params {
	return api.Params{P: nat.Of(p), Q: nat.Of(q), G: nat.Of(g)}
}

// paramsOf are parameters of numbers of the library, G being the power of 2 that is 1 to the q, if p is a prime.
func paramsOf(p, q *big.Int) api.Params {
	last := new(big.Int).Sub(p, big.NewInt(1))
	g := new(big.Int).Exp(big.NewInt(2), last.Div(last, q), p)
	return api.Params{P: natOf(p), Q: natOf(q), G: natOf(g)}
}

// long are parameters of which P has just as many digits as are said, 1024 or 1025, and Q 127.
func long(digits uint) api.Params {
	more := map[uint]int64{1024: 2 * 812, 1025: 2 * 81}[digits]
	one := big.NewInt(1)
	q := new(big.Int).Sub(new(big.Int).Lsh(one, 127), one)
	p := new(big.Int).Add(new(big.Int).Lsh(one, digits-127), big.NewInt(more))
	return paramsOf(p.Add(p.Mul(p, q), one), q)
}

// unsure are parameters of which Q is no prime, and passes.
func unsure() api.Params {
	q := parse(passing)
	p := new(big.Int).Mul(q, big.NewInt(108))
	return paramsOf(p.Add(p, big.NewInt(1)), q)
}

// oddly are parameters of a P that need be no prime: to the most each number without a common divisor is 1, and G is the least power that is 1 to the q, and not ahead of that.
func oddly(p, most *big.Int, q int64) api.Params {
	often := new(big.Int).Div(most, big.NewInt(q))
	g, one := big.NewInt(1), big.NewInt(1)
	for base := int64(2); g.Cmp(one) == 0; base++ {
		g.Exp(big.NewInt(base), often, p)
	}
	return api.Params{P: natOf(p), Q: nat.Of(uint64(q)), G: natOf(g)}
}

// unsureP are parameters of which P is no prime, and passes.
func unsureP() api.Params {
	return oddly(parse(passing), new(big.Int).Sub(parse(passingMore), big.NewInt(1)), 5)
}

// unparted are parameters of which Q passes and does not part P less one: a divisor of Q does, of whose power G is 1.
func unparted() api.Params {
	divisor, one := parse(passingLess), big.NewInt(1)
	p := new(big.Int).Set(one)
	for !p.ProbablyPrime(10) {
		p.Add(p, divisor)
	}
	params := paramsOf(p, divisor)
	params.Q = natOf(parse(passing))
	return params
}

// groups are right parameters, but for the longest.
func groups() []api.Params {
	loose := small(23, 11, 2)
	loose.P, loose.Q, loose.G = append(loose.P, 0, 0), append(loose.Q, 0), append(loose.G, 0, 0, 0)
	return []api.Params{
		small(23, 11, 2), small(23, 11, 18), small(3, 2, 2), small(7, 3, 2), small(7, 2, 6), small(17, 2, 16), small(65537, 2, 65536),
		small(17293, 131, 625), small(69431, 131, 22945), loose, unsure(), unsureP(),
	}
}

// allGroups are right parameters, the longest, too.
func allGroups() []api.Params { return append(groups(), long(1024)) }

// wrong are parameters that are not right.
func wrong() []api.Params {
	return []api.Params{
		{}, {P: nat.Of(23), Q: nat.Of(11)}, {P: nat.Of(23), G: nat.Of(2)}, {Q: nat.Of(11), G: nat.Of(2)},
		// P: 0, 1, 2, even, none that passes, too long.
		small(0, 11, 2), small(1, 11, 2), small(1, 2, 1), small(2, 2, 1), small(2, 1, 1), small(24, 11, 2), small(2047, 11, 2), small(9, 2, 8), small(21, 2, 8),
		oddly(parse(toldBy37), big.NewInt(171166050), 5), long(1025), {P: slices.Repeat(api.Nat{ones}, 3000), Q: nat.Of(3), G: nat.Of(2)},
		// Q: 0, 1, none that passes, none that parts P less one, too long.
		small(23, 0, 2), small(23, 1, 1), small(23, 1, 2), small(31, 15, 2), small(23, 22, 5), small(23, 7, 2), small(23, 23, 2), small(23, 3, 2), small(31, 4, 4), unparted(),
		{P: nat.Of(23), Q: slices.Repeat(api.Nat{ones}, 3000), G: nat.Of(2)}, {P: nat.Of(23), Q: slices.Repeat(api.Nat{0}, 9), G: nat.Of(2)},
		// G: 0, 1, no such power, not below P.
		small(23, 11, 0), small(23, 11, 1), small(23, 11, 5), small(23, 11, 22), small(23, 11, 23), small(23, 11, 24), small(23, 11, 25), small(23, 11, 48),
		small(3, 2, 5), small(7, 3, 9), {P: nat.Of(23), Q: nat.Of(11), G: api.Nat{1, 0, 0}}, {P: nat.Of(23), Q: nat.Of(11), G: slices.Repeat(api.Nat{7}, 3000)},
	}
}

// numbers are numbers of any size, among them some about a group's Q and P.
func numbers(p api.Params) []api.Nat {
	near := func(a api.Nat, more int64) api.Nat { return natOf(new(big.Int).Add(bigOf(a), big.NewInt(more))) }
	r := rand.New(rand.NewSource(61))
	mid := api.Nat{r.Uint64(), r.Uint64(), r.Uint64()}
	return []api.Nat{
		nil, {0, 0}, {1}, {2, 0}, {3}, {ones}, near(p.Q, -1), p.Q, near(p.Q, 1), near(nat.Mul(p.Q, nat.Of(6)), 0), near(nat.Mul(p.Q, nat.Of(7)), 5),
		near(p.P, -1), p.P, near(p.P, 1), mid, append(api.Nat{r.Uint64(), r.Uint64()}, 0, 0),
	}
}

// markOf is a number's mark, word by word.
func markOf(a *big.Int) []byte {
	digest := sha256.Sum256(a.Bytes())
	return digest[:16]
}

// wantNat fails, if an answer is not the number that is wanted, trimmed, and OK.
func wantNat(t *testing.T, what string, got api.Nat, e api.Errno, want *big.Int) {
	t.Helper()
	if e != api.OK || bigOf(got).Cmp(want) != 0 {
		t.Fatalf("%s = %x, %v, want %x", what, bigOf(got), e, want)
	}
	if len(got) > 0 && got[len(got)-1] == 0 {
		t.Fatalf("%s = %v: not trimmed", what, got)
	}
}

// drawn is as many bytes as are said, the same ones in each run.
func drawn(seed int64, n int) []byte {
	b := make([]byte, n)
	rand.New(rand.NewSource(seed)).Read(b)
	return b
}

// kept is a copy of a list, with others behind its end, and what tells whether all of it is as it was.
func kept[T uint64 | byte](l []T) ([]T, func() bool) {
	whole := slices.Concat(l, []T{5, 255, 6, 3})
	before := slices.Clone(whole)
	return whole[:len(l)], func() bool { return slices.Equal(whole, before) }
}

// keptParams is the same of parameters.
func keptParams(p api.Params) (api.Params, func() bool) {
	a, aKept := kept(p.P)
	b, bKept := kept(p.Q)
	c, cKept := kept(p.G)
	return api.Params{P: a, Q: b, G: c}, func() bool { return aKept() && bKept() && cKept() }
}

// fill writes over all of a list's memory.
func fill[T uint64 | byte](l []T) {
	for i := range l[:cap(l)] {
		l[:cap(l)][i] = 0x5c
	}
}
