package nat_test

import (
	"bytes"
	"slices"
	"testing"

	"clepsydra/api"
	"clepsydra/nat"
)

// P1.5: sums and products do not hang on the order, and the product of a sum is the sum of the products.
func TestOrderAndParts(t *testing.T) {
	l := numbers()
	for i, a := range l {
		for j, b := range l {
			c := l[(i*7+j*3)%len(l)]
			if nat.Cmp(nat.Add(a, b), nat.Add(b, a)) != 0 {
				t.Fatalf("the sum of %v and %v hangs on the order", a, b)
			}
			if nat.Cmp(nat.Mul(a, b), nat.Mul(b, a)) != 0 {
				t.Fatalf("the product of %v and %v hangs on the order", a, b)
			}
			if nat.Cmp(nat.Add(nat.Add(a, b), c), nat.Add(a, nat.Add(b, c))) != 0 {
				t.Fatalf("the sum of %v, %v, %v hangs on the order", a, b, c)
			}
			if nat.Cmp(nat.Mul(nat.Mul(a, b), c), nat.Mul(a, nat.Mul(b, c))) != 0 {
				t.Fatalf("the product of %v, %v, %v hangs on the order", a, b, c)
			}
			if nat.Cmp(nat.Mul(a, nat.Add(b, c)), nat.Add(nat.Mul(a, b), nat.Mul(a, c))) != 0 {
				t.Fatalf("%v times the sum of %v and %v is not the sum of the products", a, b, c)
			}
		}
	}
}

// P1.6: what was added is taken away again; a quotient times what parted, and what is left, is what was parted.
func TestThereAndBack(t *testing.T) {
	for _, a := range numbers() {
		for _, b := range numbers() {
			if d, e := nat.Sub(nat.Add(a, b), b); e != api.OK || !slices.Equal(d, nat.Trim(a)) {
				t.Fatalf("%v and %v, less that, is %v, %v", a, b, d, e)
			}
			q, r, e := nat.Div(a, b)
			if nat.Bits(b) == 0 {
				if e != api.ErrZero {
					t.Fatalf("Div(%v, 0): %v", a, e)
				}
				continue
			}
			if e != api.OK || nat.Cmp(nat.Add(nat.Mul(q, b), r), a) != 0 || nat.Cmp(r, b) >= 0 {
				t.Fatalf("Div(%v, %v) = %v, %v, %v", a, b, q, r, e)
			}
		}
	}
}

// P1.7: bytes that are read are written as they were, if there is room for as many.
func TestReadAndWritten(t *testing.T) {
	c := chance(11)
	for n := range 200 {
		b := make([]byte, n)
		for i := range b {
			if c.next()%4 > 0 {
				b[i] = byte(c.next())
			}
		}
		if got, e := nat.Write(nat.Read(b), n); e != api.OK || !bytes.Equal(got, b) {
			t.Fatalf("%v came back as %v, %v", b, got, e)
		}
		more := append(make([]byte, 5), b...)
		if got, e := nat.Write(nat.Read(b), n+5); e != api.OK || !bytes.Equal(got, more) {
			t.Fatalf("%v came back as %v, %v", b, got, e)
		}
	}
}

// P1.8: Shift there and back gives the number; it is a product with a power of two.
func TestShiftedThereAndBack(t *testing.T) {
	for _, a := range numbers() {
		for _, n := range []int{0, 1, 5, 63, 64, 65, 128, 1000, 65535, 65536} {
			up := nat.Shift(a, n)
			if back := nat.Shift(up, -n); !slices.Equal(back, nat.Trim(a)) {
				t.Fatalf("%v moved by %d and back is %v", a, n, back)
			}
			power := nat.Shift(nat.Of(1), n)
			if !slices.Equal(up, nat.Mul(a, power)) {
				t.Fatalf("%v moved by %d is no product", a, n)
			}
			if q, _, e := nat.Div(a, power); e != api.OK || !slices.Equal(q, nat.Shift(a, -n)) {
				t.Fatalf("%v moved down by %d is no quotient", a, n)
			}
		}
	}
}

// Rules 4 and 5: what is handed in is not changed, nor is what lies behind it; what is handed out is new memory.
func TestMemory(t *testing.T) {
	for _, f := range calls() {
		for _, a := range numbers() {
			for _, b := range numbers() {
				x, xKept := guarded(a)
				y, yKept := guarded(b)
				got := f.do(x, y)
				for i, one := range got {
					if !slices.Equal(one, f.do(a, b)[i]) {
						t.Fatalf("%s of %v, %v hangs on what lies behind them", f.name, a, b)
					}
				}
				for i := range got {
					again := f.do(x, y)
					fill(again[i])
					for j := range again {
						if j != i && !slices.Equal(again[j], got[j]) {
							t.Fatalf("%s of %v, %v: two answers share memory", f.name, a, b)
						}
					}
				}
				if !xKept() || !yKept() {
					t.Fatalf("%s of %v, %v: an argument was changed, or is shared", f.name, a, b)
				}
			}
		}
	}
}

// The calls that answer no number leave their arguments, too.
func TestMemoryOfTheOthers(t *testing.T) {
	for _, a := range numbers() {
		x, kept := guarded(a)
		nat.Cmp(x, x)
		nat.Bits(x)
		nat.Bit(x, 64*len(x))
		if nat.Bit(x, 64*len(x)) != 0 || nat.Bits(x) > 64*len(x) {
			t.Fatalf("%v: what lies behind it was read", a)
		}
		b, _ := nat.Write(x, 200)
		for i := range b {
			b[i] = 9
		}
		if !kept() {
			t.Fatalf("%v was changed", a)
		}
	}
	all := []byte{1, 2, 3, 4, 5, 6, 7, 8, 9, 10, 11, 12}
	a := nat.Read(all[:9])
	fill(a)
	if !bytes.Equal(all, []byte{1, 2, 3, 4, 5, 6, 7, 8, 9, 10, 11, 12}) {
		t.Errorf("Read changed its bytes: %v", all)
	}
	if a := nat.Read(all[:9]); !slices.Equal(a, api.Nat{0x0203040506070809, 1}) {
		t.Errorf("Read = %x", a)
	}
	fill(nat.Of(5))
	fill(nat.Of(0))
	if a := nat.Of(5); !slices.Equal(a, api.Nat{5}) || len(nat.Of(0)) != 0 {
		t.Errorf("Of(5) = %v: it was handed out twice", a)
	}
}

// A number may be handed in twice to one call.
func TestOneNumberTwice(t *testing.T) {
	for _, a := range numbers() {
		b := slices.Clone(a)
		for _, f := range calls() {
			got, want := f.do(a, a), f.do(a, b)
			for i := range got {
				if !slices.Equal(got[i], want[i]) {
					t.Errorf("%s of %v twice = %v, want %v", f.name, a, got[i], want[i])
				}
			}
		}
	}
}

// P1: every call ends and none panics, at nothing at all, too.
func TestNothingAtAll(t *testing.T) {
	if len(nat.Trim(nil)) != 0 || nat.Cmp(nil, nil) != 0 || len(nat.Add(nil, nil)) != 0 || len(nat.Mul(nil, nil)) != 0 {
		t.Error("of nil: not 0")
	}
	if d, e := nat.Sub(nil, nil); e != api.OK || len(d) != 0 {
		t.Errorf("Sub = %v, %v", d, e)
	}
	if nat.Bits(nil) != 0 || nat.Bit(nil, 0) != 0 || len(nat.Shift(nil, 70)) != 0 || len(nat.Shift(nil, -70)) != 0 {
		t.Error("of nil: digits")
	}
	if b, e := nat.Write(nil, 3); e != api.OK || !bytes.Equal(b, []byte{0, 0, 0}) {
		t.Errorf("Write = %v, %v", b, e)
	}
}
