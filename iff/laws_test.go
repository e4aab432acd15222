package iff_test

import (
	"bytes"
	"slices"
	"testing"

	"clepsydra/api"
	"clepsydra/iff"
	"clepsydra/modn"
	"clepsydra/nat"
)

// made are parameters that Make made, of several sizes.
func made(t *testing.T) []api.Params {
	t.Helper()
	var l []api.Params
	for _, c := range [][2]int{{8, 16}, {16, 33}, {64, 100}, {100, 200}, {160, 512}} {
		p, _, e := iff.Make(drawn(int64(c[0]), 40000), c[0], c[1])
		if e != api.OK {
			t.Fatalf("Make of %v: %v", c, e)
		}
		l = append(l, p)
	}
	return l
}

// few is a selection of the numbers about a group.
func few(p api.Params) []api.Nat {
	l := numbers(p)
	return []api.Nat{l[0], l[2], l[5], l[6], l[7], l[14], l[15]}
}

// P6.5: the answer of who has the secret holds, whatever is drawn and asked.
func TestWhoKnowsItProvesIt(t *testing.T) {
	for _, p := range append(groups(), made(t)...) {
		l := few(p)
		for i, b := range l {
			v, e := iff.Face(p, b)
			if e != api.OK {
				t.Fatalf("Face: %v", e)
			}
			for j, k := range l {
				proves(t, p, v, b, k, l[(3*i+2*j)%len(l)])
			}
		}
	}
	p, l := long(1024), few(long(1024))
	v, _ := iff.Face(p, l[5])
	proves(t, p, v, l[5], l[6], l[4])
	proves(t, p, v, l[5], l[0], l[6])
}

// proves fails, if the answer of who has a secret does not hold.
func proves(t *testing.T, p api.Params, v, b, k, r api.Nat) {
	t.Helper()
	mark, _ := iff.Mark(p, k)
	y, e := iff.Answer(p, b, k, r)
	if e != api.OK || !iff.Holds(p, v, r, y, mark) {
		t.Fatalf("who knows %x does not prove it to %x with %x", b, r, k)
	}
}

// Who has another secret does not prove it, but to a question that Q parts.
func TestWhoDoesNotKnowIt(t *testing.T) {
	for _, p := range made(t) {
		b, k := nat.Of(77), nat.Of(5)
		v, _ := iff.Face(p, b)
		mark, _ := iff.Mark(p, k)
		for _, r := range few(p) {
			y, _ := iff.Answer(p, nat.Of(78), k, r)
			left, _ := modn.Mod(r, p.Q)
			if iff.Holds(p, v, r, y, mark) != (nat.Bits(left) == 0) {
				t.Errorf("another secret, asked %x: holds, or does not", r)
			}
		}
	}
}

// P6.6: two answers with one k to two questions, whose difference has an inverse, give the secret modulo Q.
func TestWhoProvesItTwiceKnowsIt(t *testing.T) {
	for _, p := range append(groups(), made(t)...) {
		l := few(p)
		given := 0
		for i, b := range l {
			for j := range l {
				given += extracted(t, p, b, l[(i+j)%len(l)], l[j], l[(i+5*j+1)%len(l)])
			}
		}
		if given == 0 {
			t.Errorf("of %x no secret was given", p)
		}
	}
	l := few(long(1024))
	if extracted(t, long(1024), l[5], l[6], l[3], l[6]) == 0 {
		t.Error("of the longest group no secret was given")
	}
}

// extracted fails, if two answers give another secret; it tells how often they give one, once or not at all.
func extracted(t *testing.T, p api.Params, b, k, r1, r2 api.Nat) int {
	t.Helper()
	secret, _ := modn.Mod(b, p.Q)
	y1, _ := iff.Answer(p, b, k, r1)
	y2, _ := iff.Answer(p, b, k, r2)
	got, e := iff.Extract(p, r1, y1, r2, y2)
	if e == api.ErrCoprime {
		return 0
	}
	if e != api.OK || !slices.Equal(got, secret) {
		t.Fatalf("the answers to %x and %x give %x, %v, want %x", r1, r2, got, e, secret)
	}
	return 1
}

// calls are all functions of numbers, done on four, and what they answer, in bytes.
var calls = map[string]func(p api.Params, a, b, c, d api.Nat) ([]uint64, []byte, api.Errno){
	"Face": func(p api.Params, a, _, _, _ api.Nat) ([]uint64, []byte, api.Errno) {
		v, e := iff.Face(p, a)
		return v, nil, e
	},
	"Mark": func(p api.Params, a, _, _, _ api.Nat) ([]uint64, []byte, api.Errno) {
		mark, e := iff.Mark(p, a)
		return nil, mark, e
	},
	"Answer": func(p api.Params, a, b, c, _ api.Nat) ([]uint64, []byte, api.Errno) {
		y, e := iff.Answer(p, a, b, c)
		return y, nil, e
	},
	"Extract": func(p api.Params, a, b, c, d api.Nat) ([]uint64, []byte, api.Errno) {
		secret, e := iff.Extract(p, a, b, c, d)
		return secret, nil, e
	},
	"Right": func(p api.Params, _, _, _, _ api.Nat) ([]uint64, []byte, api.Errno) { return nil, nil, iff.Right(p) },
}

// Rules 4 and 5: what is handed in is not changed, what lies behind it plays no part; what is handed out is new memory.
func TestMemory(t *testing.T) {
	for name, do := range calls {
		for _, plain := range append(groups(), wrong()...) {
			p, pKept := keptParams(plain)
			l := few(small(23, 11, 2))
			for i := range l {
				a, aKept := kept(l[i])
				b, bKept := kept(l[(i+1)%len(l)])
				c, cKept := kept(l[(i+2)%len(l)])
				d, dKept := kept(l[(i+3)%len(l)])
				n, mark, e := do(p, a, b, c, d)
				wantN, wantMark, code := do(plain, slices.Clone(a), slices.Clone(b), slices.Clone(c), slices.Clone(d))
				if e != code || !slices.Equal(n, wantN) || !bytes.Equal(mark, wantMark) {
					t.Fatalf("%s hangs on what lies behind its arguments", name)
				}
				fill(n)
				fill(mark)
				if !pKept() || !aKept() || !bKept() || !cKept() || !dKept() {
					t.Fatalf("%s changed an argument, or shares it", name)
				}
			}
		}
	}
}

func TestMemoryOfHolds(t *testing.T) {
	for _, plain := range groups() {
		p, pKept := keptParams(plain)
		secret, drawnK, asked := nat.Of(5), nat.Of(9), nat.Of(3)
		face, _ := iff.Face(plain, secret)
		told, _ := iff.Mark(plain, drawnK)
		answer, _ := iff.Answer(plain, secret, drawnK, asked)
		v, vKept := kept(face)
		r, rKept := kept(asked)
		y, yKept := kept(answer)
		mark, markKept := kept(told)
		if !iff.Holds(p, v, r, y, mark) {
			t.Error("Holds hangs on what lies behind its arguments")
		}
		if !pKept() || !vKept() || !rKept() || !yKept() || !markKept() {
			t.Error("Holds changed an argument")
		}
	}
}

func TestMemoryOfMake(t *testing.T) {
	draws, drawsKept := kept(drawn(7, 4000))
	p, used, e := iff.Make(draws, 40, 100)
	again, usedAgain, _ := iff.Make(slices.Clone(draws), 40, 100)
	if e != api.OK || used != usedAgain || !slices.Equal(p.P, again.P) || !slices.Equal(p.Q, again.Q) || !slices.Equal(p.G, again.G) {
		t.Fatalf("Make = %x, %d, %v, and again %x, %d", p, used, e, again, usedAgain)
	}
	fill(p.P)
	if !slices.Equal(p.Q, again.Q) || !slices.Equal(p.G, again.G) {
		t.Error("P shares memory")
	}
	fill(p.Q)
	if !slices.Equal(p.G, again.G) {
		t.Error("Q shares memory")
	}
	fill(p.G)
	short, shortKept := kept(drawn(8, 3))
	if _, _, e := iff.Make(short, 8, 500); e != api.ErrDraws {
		t.Errorf("Make: %v", e)
	}
	if !drawsKept() || !shortKept() {
		t.Error("Make changed its draws, or shares them")
	}
}

// P1: no call panics, and each ends, at numbers of any size.
func TestAnySize(t *testing.T) {
	huge := slices.Repeat(api.Nat{ones, 7}, 20000)
	p := small(23, 11, 2)
	left, _ := modn.Mod(huge, p.Q)
	for name, do := range calls {
		n, mark, e := do(p, huge, huge, nil, left)
		wantN, wantMark, code := do(p, left, left, nil, huge)
		if e != code || !slices.Equal(n, wantN) || !bytes.Equal(mark, wantMark) {
			t.Errorf("%s = %v, %v, %v, want %v, %v, %v", name, n, mark, e, wantN, wantMark, code)
		}
	}
	for _, p := range []api.Params{{P: huge, Q: huge, G: huge}, {P: p.P, Q: huge, G: p.G}, {P: p.P, Q: p.Q, G: huge}, {P: huge, Q: p.Q, G: p.G}} {
		if e := iff.Right(p); e != api.ErrParams {
			t.Errorf("Right: %v", e)
		}
	}
	short := huge[:200]
	v, _ := iff.Face(p, short)
	mark, _ := iff.Mark(p, short)
	y, _ := iff.Answer(p, short, short, short)
	if !iff.Holds(p, v, short, nat.Add(y, nat.Mul(p.Q, huge)), mark) {
		t.Error("a proof of long numbers does not hold")
	}
}
