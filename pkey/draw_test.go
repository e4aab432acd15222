package pkey_test

import (
	"math"
	"math/big"
	"testing"

	"clepsydra/api"
	"clepsydra/nat"
	"clepsydra/pkey"
)

// P5.3: Draw.

// found are the two primes that draws lead to, and how many bytes were used, word by word.
func found(draws []byte, bits int, e uint64) (*big.Int, *big.Int, int) {
	half, one := bits/2, big.NewInt(1)
	size := (half + 7) / 8
	var p *big.Int
	for used := size; used <= len(draws); used += size {
		n := new(big.Int).SetBytes(draws[used-size : used])
		n.Mod(n, new(big.Int).Lsh(one, uint(half)))
		n.SetBit(n.SetBit(n.SetBit(n, 0, 1), half-1, 1), half-2, 1)
		divisor := new(big.Int).GCD(nil, nil, new(big.Int).SetUint64(e), new(big.Int).Sub(n, one))
		switch {
		case divisor.Cmp(one) != 0 || !n.ProbablyPrime(10):
		case p == nil:
			p = n
		case p.Cmp(n) != 0:
			return p, n, used
		}
	}
	return nil, nil, 0
}

// drawsAs fails, if Draw does not answer word by word; it tells how many bytes were used.
func drawsAs(t *testing.T, draws []byte, bits int, e uint64) int {
	t.Helper()
	k, n, errno := pkey.Draw(draws, bits, e)
	p, q, used := found(draws, bits, e)
	if used == 0 {
		wantNoKey(t, "Draw", k, errno, api.ErrDraws)
		if n != 0 {
			t.Fatalf("Draw used %d", n)
		}
		return 0
	}
	want, code := pkey.Make(natOf(p), natOf(q), e)
	if errno != api.OK || code != api.OK || !sameKey(k, want) || n != used {
		t.Fatalf("Draw in %d digits = %x, %d, %v, want %x, %d, %v", bits, k, n, errno, want, used, code)
	}
	wantNat(t, "N", k.N, new(big.Int).Mul(p, q))
	return used
}

func TestDraw(t *testing.T) {
	for bits := 16; bits <= 160; bits += 2 {
		for i, e := range []uint64{3, 5, 17, 257} {
			draws := drawn(int64(1000*bits+i), 60*bits)
			used := drawsAs(t, draws, bits, e)
			if used == 0 {
				t.Errorf("no key of %d digits: take more draws", bits)
				continue
			}
			drawsAs(t, draws[:used], bits, e)
			drawsAs(t, draws[:used-1], bits, e)
			drawsAs(t, draws[:used/2], bits, e)
		}
	}
	for _, bits := range []int{254, 256, 258, 510, 512, 1022, 1024} {
		if drawsAs(t, drawn(int64(bits), 100*bits), bits, 65537) == 0 {
			t.Errorf("no key of %d digits: take more draws", bits)
		}
	}
}

func TestDrawExamples(t *testing.T) {
	for _, c := range []struct {
		draws []byte
		bits  int
		e     uint64
		n, d  uint64
		used  int
	}{
		// 193 and 197; again 193 in between, and 195, which is no prime.
		{[]byte{0, 5}, 16, 5, 38021, 15053, 2},
		{[]byte{0, 5, 1, 2, 3}, 16, 5, 38021, 15053, 2},
		{[]byte{0, 0, 193, 2, 5}, 16, 5, 38021, 15053, 5},
		{[]byte{5, 4, 128, 0}, 16, 5, 38021, 15053, 3},
		// 192 has the divisor 3: 197 and 227 are taken.
		{[]byte{0, 5, 1, 227}, 16, 3, 197 * 227, 29531, 4},
		// Nine digits: 389 and 401, the digits above them left away.
		{[]byte{0, 5, 254, 16}, 18, 3, 389 * 401, 103467, 4},
		// The greatest E that is below N and suits.
		{[]byte{0, 5}, 16, 38015, 38021, 33407, 2},
	} {
		k, used, e := pkey.Draw(c.draws, c.bits, c.e)
		if e != api.OK || used != c.used {
			t.Errorf("Draw(%v, %d, %d) = %x, %d, %v", c.draws, c.bits, c.e, k, used, e)
			continue
		}
		wantNat(t, "N", k.N, new(big.Int).SetUint64(c.n))
		wantNat(t, "E", k.E, new(big.Int).SetUint64(c.e))
		wantNat(t, "D", k.D, new(big.Int).SetUint64(c.d))
	}
}

func TestDrawErrors(t *testing.T) {
	many := drawn(7, 4000)
	for _, c := range []struct {
		draws []byte
		bits  int
		e     uint64
		want  api.Errno
	}{
		{many, 15, 3, api.ErrArg}, {many, 14, 3, api.ErrArg}, {many, 17, 3, api.ErrArg}, {many, 0, 3, api.ErrArg},
		{many, -2, 3, api.ErrArg}, {many, -1, 3, api.ErrArg}, {many, -64, 3, api.ErrArg}, {many, math.MinInt, 3, api.ErrArg},
		{many, 1023, 3, api.ErrArg}, {many, 1025, 3, api.ErrArg}, {many, 1026, 3, api.ErrArg}, {many, math.MaxInt, 3, api.ErrArg},
		{many, math.MaxInt - 1, 3, api.ErrArg},
		{many, 64, 0, api.ErrArg}, {many, 64, 1, api.ErrArg}, {many, 64, 2, api.ErrArg}, {many, 64, 4, api.ErrArg},
		{many, 64, ones - 1, api.ErrArg}, {nil, 13, 3, api.ErrArg}, {nil, 64, 2, api.ErrArg},
		{nil, 16, 3, api.ErrDraws}, {nil, 1024, 3, api.ErrDraws}, {make([]byte, 3), 32, 3, api.ErrDraws},
		{make([]byte, 999), 16, 5, api.ErrDraws}, {make([]byte, 999), 16, 3, api.ErrDraws}, {[]byte{0}, 16, 5, api.ErrDraws},
		{[]byte{0, 5, 254}, 18, 3, api.ErrDraws}, {many[:63], 1024, 3, api.ErrDraws}, {nil, 16, ones, api.ErrDraws},
		// The primes are found, and E is not below their product.
		{[]byte{0, 5}, 16, 38021, api.ErrKey}, {many, 16, ones - 58, api.ErrKey}, {many, 62, ones - 58, api.ErrKey},
	} {
		k, used, e := pkey.Draw(c.draws, c.bits, c.e)
		wantNoKey(t, "Draw", k, e, c.want)
		if used != 0 {
			t.Errorf("Draw in %d digits, with %d, used %d", c.bits, c.e, used)
		}
	}
}

// P5.8: a key that was drawn has just as many digits as were asked for; P2: it is made of two primes whose works undo each other.
func TestDrawnDigits(t *testing.T) {
	for bits := 16; bits <= 200; bits += 2 {
		for seed := range int64(3) {
			k, _, e := pkey.Draw(drawn(seed+int64(bits), 60*bits), bits, 17)
			if e != api.OK {
				t.Fatalf("Draw: %v", e)
			}
			if nat.Bits(k.N) != bits || pkey.Right(k) != api.OK {
				t.Errorf("%x has not %d digits", k.N, bits)
			}
			n, power, d := bigOf(k.N), bigOf(k.E), bigOf(k.D)
			for i := range int64(20) {
				a := big.NewInt(3 + 7919*i)
				a.Mod(a, n)
				if b := new(big.Int).Exp(new(big.Int).Exp(a, power, n), d, n); b.Cmp(a) != 0 {
					t.Errorf("%v comes back as %v modulo %v", a, b, n)
				}
			}
		}
	}
	// No draws are so small, or so great, that a digit is lost, or one is gained.
	made := 0
	for _, b := range []byte{0, 255} {
		for bits := 16; bits <= 64; bits += 2 {
			draws := make([]byte, 4000)
			for i := range draws {
				draws[i] = b
				if size := (bits/2 + 7) / 8; i%size == size-1 {
					draws[i] ^= byte(i / size * 2)
				}
			}
			k, _, e := pkey.Draw(draws, bits, 65539)
			// Of 17 digits E takes more than N may have, and of few digits there are few candidates.
			if e == api.ErrDraws || e == api.ErrKey && bits < 18 {
				continue
			}
			if e != api.OK || nat.Bits(k.N) != bits {
				t.Errorf("of %d: %x, %v, want %d digits", b, k.N, e, bits)
			}
			made++
		}
	}
	if made < 30 {
		t.Errorf("only %d keys were made", made)
	}
}
