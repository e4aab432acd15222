package iff_test

import (
	"bytes"
	"math/big"
	"slices"
	"testing"

	"clepsydra/api"
	"clepsydra/iff"
	"clepsydra/nat"
)

// P6.1: Right.

func TestRight(t *testing.T) {
	for _, p := range allGroups() {
		if e := iff.Right(p); e != api.OK {
			t.Errorf("Right(%x) = %v", p, e)
		}
	}
	for i, p := range wrong() {
		if e := iff.Right(p); e != api.ErrParams {
			t.Errorf("Right of the wrong %d = %v", i, e)
		}
	}
}

func TestRightOfSmallNumbers(t *testing.T) {
	sure := func(n uint64) bool { return new(big.Int).SetUint64(n).ProbablyPrime(0) }
	for p := range uint64(48) {
		for q := range uint64(48) {
			for g := range uint64(50) {
				want := api.ErrParams
				if sure(p) && sure(q) && (p-1)%q == 0 && g > 1 && g < p {
					power := uint64(1)
					for range q {
						power = power * g % p
					}
					if power == 1 {
						want = api.OK
					}
				}
				if got := iff.Right(small(p, q, g)); got != want {
					t.Fatalf("Right(%d, %d, %d) = %v", p, q, g, got)
				}
			}
		}
	}
}

// P6.3: Face, Mark, Answer, Holds.

func TestFace(t *testing.T) {
	for _, p := range allGroups() {
		m, q := bigOf(p.P), bigOf(p.Q)
		for _, b := range numbers(p) {
			got, e := iff.Face(p, b)
			power := new(big.Int).Mod(bigOf(b), q)
			wantNat(t, "Face", got, e, new(big.Int).Exp(bigOf(p.G), power.Sub(q, power), m))
			// The inverse of G to the b.
			back := new(big.Int).Exp(bigOf(p.G), bigOf(b), m)
			if back.Mod(back.Mul(back, bigOf(got)), m).Cmp(big.NewInt(1)) != 0 {
				t.Errorf("the face of %x is no inverse", b)
			}
		}
	}
}

func TestMark(t *testing.T) {
	for _, p := range allGroups() {
		for _, k := range numbers(p) {
			got, e := iff.Mark(p, k)
			want := markOf(new(big.Int).Exp(bigOf(p.G), bigOf(k), bigOf(p.P)))
			if e != api.OK || !bytes.Equal(got, want) {
				t.Fatalf("Mark of %x = %x, %v, want %x", k, got, e, want)
			}
		}
	}
	// Powers of one byte, and of two, in a group whose P has two.
	p := small(17293, 131, 625)
	for k := range uint64(300) {
		got, e := iff.Mark(p, nat.Of(k))
		if e != api.OK || !bytes.Equal(got, markOf(new(big.Int).Exp(big.NewInt(625), new(big.Int).SetUint64(k), big.NewInt(17293)))) {
			t.Fatalf("Mark of %d = %x, %v", k, got, e)
		}
	}
}

func TestAnswer(t *testing.T) {
	for _, p := range groups() {
		l := numbers(p)
		for i, b := range l {
			for j, k := range l {
				r := l[(3*i+5*j)%len(l)]
				got, e := iff.Answer(p, b, k, r)
				want := new(big.Int).Mul(bigOf(b), bigOf(r))
				wantNat(t, "Answer", got, e, want.Mod(want.Add(want, bigOf(k)), bigOf(p.Q)))
			}
		}
	}
}

func TestExamples(t *testing.T) {
	p := small(23, 11, 2)
	for _, c := range []struct{ b, face uint64 }{{0, 1}, {1, 12}, {3, 3}, {10, 2}, {11, 1}, {14, 3}} {
		got, e := iff.Face(p, nat.Of(c.b))
		wantNat(t, "Face", got, e, new(big.Int).SetUint64(c.face))
	}
	for _, c := range []struct{ b, k, r, y uint64 }{{3, 5, 7, 4}, {0, 5, 7, 5}, {3, 0, 7, 10}, {3, 5, 0, 5}, {0, 0, 0, 0}, {3, 1, 7, 0}, {11, 11, 11, 0}, {14, 16, 18, 4}} {
		got, e := iff.Answer(p, nat.Of(c.b), nat.Of(c.k), nat.Of(c.r))
		wantNat(t, "Answer", got, e, new(big.Int).SetUint64(c.y))
	}
	for _, c := range []struct{ k, power uint64 }{{0, 1}, {5, 9}, {10, 12}, {11, 1}, {16, 9}} {
		if got, e := iff.Mark(p, nat.Of(c.k)); e != api.OK || !bytes.Equal(got, markOf(new(big.Int).SetUint64(c.power))) {
			t.Errorf("Mark of %d = %x, %v", c.k, got, e)
		}
	}
	for _, c := range []struct{ r1, y1, r2, y2, b uint64 }{{7, 4, 1, 8, 3}, {1, 8, 7, 4, 3}, {18, 15, 12, 19, 3}, {4, 6, 3, 6, 0}, {5, 9, 4, 8, 1}, {5, 8, 4, 9, 10}} {
		got, e := iff.Extract(p, nat.Of(c.r1), nat.Of(c.y1), nat.Of(c.r2), nat.Of(c.y2))
		wantNat(t, "Extract", got, e, new(big.Int).SetUint64(c.b))
	}
}

func TestHolds(t *testing.T) {
	for _, p := range groups() {
		l, m := numbers(p), bigOf(p.P)
		for i, v := range l {
			for j, y := range l {
				r := l[(7*i+3*j)%len(l)]
				both := new(big.Int).Exp(bigOf(v), bigOf(r), m)
				both.Mod(both.Mul(both, new(big.Int).Exp(bigOf(p.G), bigOf(y), m)), m)
				mark := markOf(both)
				if !iff.Holds(p, v, r, y, mark) {
					t.Fatalf("modulo %x, %x to the %x and %x: does not hold", p.P, v, r, y)
				}
				mark[(i+j)%16] ^= 1 << (i % 8)
				if iff.Holds(p, v, r, y, mark) {
					t.Fatalf("modulo %x, %x to the %x and %x: holds for another mark", p.P, v, r, y)
				}
			}
		}
	}
}

// Small groups, all there is in them: faces that have no secret, and 0, too.
func TestHoldsOfSmallNumbers(t *testing.T) {
	p := small(23, 11, 2)
	for v := range int64(26) {
		for r := range int64(13) {
			for y := range int64(3) {
				m := big.NewInt(23)
				both := new(big.Int).Exp(big.NewInt(v), big.NewInt(r), m)
				both.Mod(both.Mul(both, new(big.Int).Exp(big.NewInt(2), big.NewInt(y), m)), m)
				for power := range int64(24) {
					got := iff.Holds(p, nat.Of(uint64(v)), nat.Of(uint64(r)), nat.Of(uint64(y)), markOf(big.NewInt(power)))
					if got != (both.Int64() == power) {
						t.Fatalf("%d to the %d and 2 to the %d, for the mark of %d: %v", v, r, y, power, got)
					}
				}
			}
		}
	}
}

func TestHoldsNot(t *testing.T) {
	p, b, k, r := small(17293, 131, 625), nat.Of(77), nat.Of(99), nat.Of(50)
	v, _ := iff.Face(p, b)
	mark, _ := iff.Mark(p, k)
	y, _ := iff.Answer(p, b, k, r)
	if !iff.Holds(p, v, r, y, mark) {
		t.Fatal("a right proof does not hold")
	}
	digest := append(slices.Clone(mark), 7)
	for name, held := range map[string]bool{
		"no mark": iff.Holds(p, v, r, y, nil), "a byte less": iff.Holds(p, v, r, y, mark[:15]), "a byte more": iff.Holds(p, v, r, y, digest),
		"without its first": iff.Holds(p, v, r, y, mark[1:]), "a byte 0 more": iff.Holds(p, v, r, y, append(slices.Clone(mark), 0)),
		"another face": iff.Holds(p, nat.Of(625), r, y, mark), "no face": iff.Holds(p, nil, r, y, mark),
		"another question": iff.Holds(p, v, nat.Of(51), y, mark), "another answer": iff.Holds(p, v, r, nat.Add(y, nat.Of(1)), mark),
		"other parameters": iff.Holds(small(23, 11, 2), v, r, y, mark),
	} {
		if held {
			t.Errorf("%s: holds", name)
		}
	}
	for i, p := range wrong() {
		m := bigOf(p.P)
		if m.Sign() > 0 && m.BitLen() < 2000 {
			mark = markOf(new(big.Int).Mod(big.NewInt(1), m))
		}
		if iff.Holds(p, nil, nil, nil, mark) || iff.Holds(p, nat.Of(1), nat.Of(1), nil, mark) {
			t.Errorf("the wrong %d: holds", i)
		}
	}
}

// The errors are Right's.
func TestErrors(t *testing.T) {
	a := nat.Of(3)
	for i, p := range wrong() {
		face, e1 := iff.Face(p, a)
		mark, e2 := iff.Mark(p, a)
		answer, e3 := iff.Answer(p, a, a, a)
		secret, e4 := iff.Extract(p, a, nil, nil, a)
		none, e5 := iff.Extract(p, a, a, a, a)
		if e1 != api.ErrParams || e2 != api.ErrParams || e3 != api.ErrParams || e4 != api.ErrParams || e5 != api.ErrParams {
			t.Errorf("of the wrong %d: %v, %v, %v, %v, %v", i, e1, e2, e3, e4, e5)
		}
		if len(face)+len(mark)+len(answer)+len(secret)+len(none) > 0 {
			t.Errorf("of the wrong %d: %v, %v, %v, %v, %v", i, face, mark, answer, secret, none)
		}
	}
}

// P6.4: Extract.

func TestExtract(t *testing.T) {
	for _, p := range groups() {
		l, q := numbers(p), bigOf(p.Q)
		for i, r1 := range l {
			for j, r2 := range l {
				y1, y2 := l[(3*i+j)%len(l)], l[(i+5*j)%len(l)]
				got, e := iff.Extract(p, r1, y1, r2, y2)
				inverse := new(big.Int).Sub(bigOf(r1), bigOf(r2))
				if inverse.ModInverse(inverse.Mod(inverse, q), q) == nil {
					if e != api.ErrCoprime || len(got) > 0 {
						t.Fatalf("Extract = %x, %v", got, e)
					}
					continue
				}
				want := new(big.Int).Sub(bigOf(y1), bigOf(y2))
				wantNat(t, "Extract", got, e, want.Mod(want.Mul(want, inverse), q))
			}
		}
	}
}

func TestExtractErrors(t *testing.T) {
	p := small(23, 11, 2)
	for _, c := range []struct{ r1, r2 uint64 }{{0, 0}, {7, 7}, {0, 11}, {11, 0}, {3, 14}, {14, 3}, {36, 3}} {
		got, e := iff.Extract(p, nat.Of(c.r1), nat.Of(5), nat.Of(c.r2), nat.Of(4))
		if e != api.ErrCoprime || len(got) > 0 {
			t.Errorf("Extract of %d and %d = %v, %v", c.r1, c.r2, got, e)
		}
	}
	// A Q that passes and is no prime: there are differences other than 0 without an inverse.
	for _, divisor := range []string{passingLess, passingMore} {
		r := natOf(parse(divisor))
		for _, c := range [][2]api.Nat{{r, nil}, {nil, r}, {nat.Add(r, nat.Of(9)), nat.Of(9)}, {nat.Mul(r, nat.Of(3)), r}} {
			got, e := iff.Extract(unsure(), c[0], nat.Of(5), c[1], nat.Of(4))
			if e != api.ErrCoprime || len(got) > 0 {
				t.Errorf("Extract of %v and %v = %v, %v", c[0], c[1], got, e)
			}
		}
	}
}
