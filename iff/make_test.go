package iff_test

import (
	"math"
	"math/big"
	"slices"
	"testing"

	"clepsydra/api"
	"clepsydra/iff"
	"clepsydra/nat"
)

// P6.2: Make.

// candidateOf is a candidate, word by word.
func candidateOf(drawn []byte, digits int) *big.Int {
	n := new(big.Int).SetBytes(drawn)
	n.Mod(n, new(big.Int).Lsh(big.NewInt(1), uint(digits)))
	return n.SetBit(n.SetBit(n, 0, 1), digits-1, 1)
}

// found is what draws lead to, and how many bytes were used, word by word.
func found(draws []byte, qbits, pbits int) (p, q, g *big.Int, used int) {
	one := big.NewInt(1)
	for size := (qbits + 7) / 8; q == nil || !q.ProbablyPrime(10); used += size {
		if used+size > len(draws) {
			return nil, nil, nil, 0
		}
		q = candidateOf(draws[used:used+size], qbits)
	}
	for size := (pbits - qbits + 7) / 8; p == nil || !p.ProbablyPrime(10); used += size {
		if used+size > len(draws) {
			return nil, nil, nil, 0
		}
		p = candidateOf(draws[used:used+size], pbits-qbits)
		p.Add(p.Mul(p.Sub(p, one), q), one)
	}
	often := new(big.Int).Div(new(big.Int).Sub(p, one), q)
	for base := int64(2); ; base++ {
		if g = new(big.Int).Exp(big.NewInt(base), often, p); g.Cmp(one) > 0 {
			return p, q, g, used
		}
	}
}

// makesAs fails, if Make does not answer word by word; it tells how many bytes were used.
func makesAs(t *testing.T, draws []byte, qbits, pbits int) int {
	t.Helper()
	got, n, e := iff.Make(draws, qbits, pbits)
	p, q, g, used := found(draws, qbits, pbits)
	if used == 0 {
		wantNone(t, got, n, e, api.ErrDraws)
		return 0
	}
	wantNat(t, "P", got.P, e, p)
	wantNat(t, "Q", got.Q, e, q)
	wantNat(t, "G", got.G, e, g)
	if n != used {
		t.Fatalf("Make used %d, want %d", n, used)
	}
	return used
}

// wantNone fails, if an answer is not the error that is wanted, and nothing else.
func wantNone(t *testing.T, p api.Params, used int, e, want api.Errno) {
	t.Helper()
	if e != want || used != 0 || len(p.P)+len(p.Q)+len(p.G) > 0 {
		t.Fatalf("Make = %x, %d, %v, want the error %v", p, used, e, want)
	}
}

func TestMake(t *testing.T) {
	for qbits := 8; qbits <= 40; qbits++ {
		for more := 8; more <= 40; more += 1 + qbits%3 {
			draws := drawn(int64(100*qbits+more), 2000)
			used := makesAs(t, draws, qbits, qbits+more)
			if used == 0 {
				t.Errorf("no parameters of %d and %d digits: take more draws", qbits, qbits+more)
				continue
			}
			for _, n := range []int{used, used - 1, used / 2, 1} {
				makesAs(t, draws[:n], qbits, qbits+more)
			}
		}
	}
	for _, c := range [][2]int{{8, 512}, {64, 128}, {65, 129}, {160, 512}, {255, 267}, {256, 268}, {256, 511}, {256, 512}} {
		if makesAs(t, drawn(int64(c[0]+c[1]), 40000), c[0], c[1]) == 0 {
			t.Errorf("no parameters of %v digits: take more draws", c)
		}
	}
	// There are but few candidates of eight digits.
	makesAs(t, drawn(1, 4000), 255, 263)
	makesAs(t, drawn(2, 4000), 256, 264)
}

func TestMakeExamples(t *testing.T) {
	for _, c := range []struct {
		draws        []byte
		qbits, pbits int
		p, q, g      uint64
		used         int
	}{
		// 129 is no prime, 131 is; 128 and 130 times 131, and one, are none, 132 times it, and one, is.
		{[]byte{0, 2, 0, 2, 4}, 8, 16, 17293, 131, 625, 5},
		{[]byte{131, 133}, 8, 16, 17293, 131, 625, 2},
		{[]byte{3, 5, 131, 9}, 8, 16, 17293, 131, 625, 2},
		// 531 in ten digits, those above them left away: 2 to the 530 is 1.
		{[]byte{131, 254, 19}, 8, 18, 69431, 131, 22945, 3},
		// 49441 in sixteen digits: 2 and 3 to the 49440 are 1.
		{[]byte{2, 0x41, 0x20, 0, 0}, 8, 24, 6476641, 131, 6454591, 3},
		// 257 in nine digits; 135 in eight.
		{[]byte{254, 0, 6}, 9, 17, 34439, 257, 31028, 3},
	} {
		got, used, e := iff.Make(c.draws, c.qbits, c.pbits)
		wantNat(t, "P", got.P, e, new(big.Int).SetUint64(c.p))
		wantNat(t, "Q", got.Q, e, new(big.Int).SetUint64(c.q))
		wantNat(t, "G", got.G, e, new(big.Int).SetUint64(c.g))
		if used != c.used {
			t.Errorf("Make of %v used %d", c.draws, used)
		}
	}
}

func TestMakeErrors(t *testing.T) {
	many := drawn(5, 60000)
	for _, c := range []struct {
		draws        []byte
		qbits, pbits int
		want         api.Errno
	}{
		{many, 7, 100, api.ErrArg}, {many, 0, 100, api.ErrArg}, {many, -1, 100, api.ErrArg}, {many, math.MinInt, 100, api.ErrArg},
		{many, 257, 512, api.ErrArg}, {many, 257, 400, api.ErrArg}, {many, math.MaxInt, 512, api.ErrArg}, {many, math.MaxInt, math.MaxInt, api.ErrArg},
		{many, 8, 15, api.ErrArg}, {many, 100, 107, api.ErrArg}, {many, 100, 50, api.ErrArg}, {many, 256, 263, api.ErrArg},
		{many, 100, 513, api.ErrArg}, {many, 256, 513, api.ErrArg}, {many, 8, math.MaxInt, api.ErrArg}, {many, 8, -1, api.ErrArg}, {many, 8, math.MinInt, api.ErrArg},
		{many, math.MaxInt - 3, math.MinInt + 5, api.ErrArg}, {nil, 7, 100, api.ErrArg}, {nil, 8, 15, api.ErrArg},
		{nil, 8, 16, api.ErrDraws}, {nil, 256, 512, api.ErrDraws}, {make([]byte, 999), 8, 16, api.ErrDraws}, {[]byte{131}, 8, 16, api.ErrDraws},
		{[]byte{131, 0, 0, 0}, 8, 16, api.ErrDraws}, {[]byte{131, 133}, 8, 17, api.ErrDraws}, {[]byte{131, 133}, 9, 17, api.ErrDraws},
		{many[:31], 256, 512, api.ErrDraws},
	} {
		p, used, e := iff.Make(c.draws, c.qbits, c.pbits)
		wantNone(t, p, used, e, c.want)
	}
}

// Of this P no base up to 37 tells that it is no prime, and there is no G for this Q: a base to the power of their quotient is 1, or no power of Q is.
func TestMakeWithoutG(t *testing.T) {
	q := big.NewInt(474349721)
	c := new(big.Int).Sub(parse(passing), big.NewInt(1))
	c.Add(c.Div(c, q), big.NewInt(1))
	draws := slices.Concat(q.Bytes(), c.Bytes())
	p, used, e := iff.Make(draws, q.BitLen(), q.BitLen()+c.BitLen())
	wantNone(t, p, used, e, api.ErrParams)
	p, used, e = iff.Make(draws[:len(draws)-1], q.BitLen(), q.BitLen()+c.BitLen())
	wantNone(t, p, used, e, api.ErrDraws)
}

// A Q that 37 alone tells of is passed by, and so is such a P.
func TestMakePassesBy(t *testing.T) {
	told := parse(toldBy37)
	draws := slices.Concat(told.Bytes(), drawn(1, 4000))
	if makesAs(t, draws, told.BitLen(), 100) == 0 {
		t.Error("no parameters: take more draws")
	}
	for _, q := range []int64{151, 229} {
		c := new(big.Int).Div(told, big.NewInt(q))
		if back := new(big.Int).Mul(c, big.NewInt(q)); back.Add(back, big.NewInt(1)).Cmp(told) != 0 {
			t.Fatalf("%d does not part it less one", q)
		}
		c.Add(c, big.NewInt(1))
		p, used, e := iff.Make(append([]byte{byte(q)}, c.Bytes()...), 8, 8+c.BitLen())
		wantNone(t, p, used, e, api.ErrDraws)
	}
}

// P6.7: parameters that were made are right, with as many digits of Q as were asked for.
func TestMadeAreRight(t *testing.T) {
	for qbits := 8; qbits <= 64; qbits += 3 {
		for seed := range int64(4) {
			p, _, e := iff.Make(drawn(seed, 6000), qbits, 2*qbits+int(seed))
			if e != api.OK {
				t.Fatalf("Make: %v", e)
			}
			if e := iff.Right(p); e != api.OK || nat.Bits(p.Q) != qbits {
				t.Errorf("Q %x is not of %d digits, or the parameters are not right: %v", p.Q, qbits, e)
			}
			if d := nat.Bits(p.P); d != 2*qbits+int(seed) && d != 2*qbits+int(seed)-1 {
				t.Errorf("P has %d digits", d)
			}
		}
	}
}
