package modn_test

import (
	"slices"
	"testing"

	"clepsydra/api"
	"clepsydra/modn"
	"clepsydra/nat"
)

// sure is an answer whose error is known to be OK.
func sure(t *testing.T) func(a api.Nat, e api.Errno) api.Nat {
	return func(a api.Nat, e api.Errno) api.Nat {
		t.Helper()
		if e != api.OK {
			t.Fatalf("error %v", e)
		}
		return a
	}
}

// P3.4: a power of a sum is the product of the powers; a power of a product likewise.
func TestPowers(t *testing.T) {
	ok := sure(t)
	exponents := []api.Nat{nil, {1}, {2}, {7}, {ones}, {ones, 3}}
	l := numbers()
	for i, n := range l {
		if nat.Bits(n) == 0 {
			continue
		}
		for j, a := range l {
			b, e, f := l[(i+3*j)%len(l)], exponents[j%6], exponents[(i+j/6)%6]
			first := ok(modn.Pow(a, e, n))
			if got := ok(modn.Pow(a, nat.Add(e, f), n)); !slices.Equal(got, ok(modn.Mul(first, ok(modn.Pow(a, f, n)), n))) {
				t.Fatalf("%v to the sum of %v and %v modulo %v is %v", a, e, f, n, got)
			}
			if got := ok(modn.Pow(nat.Mul(a, b), e, n)); !slices.Equal(got, ok(modn.Mul(first, ok(modn.Pow(b, e, n)), n))) {
				t.Fatalf("%v times %v to the %v modulo %v is %v", a, b, e, n, got)
			}
		}
	}
}

// P3.5: a number times its inverse is 1; there is one just if the two have no common divisor but 1.
func TestInverses(t *testing.T) {
	ok := sure(t)
	for _, a := range numbers() {
		for _, n := range numbers() {
			inverse, e := modn.Inverse(a, n)
			if nat.Bits(n) == 0 {
				continue
			}
			if none := nat.Cmp(modn.Gcd(a, n), nat.Of(1)) != 0; none != (e == api.ErrCoprime) {
				t.Fatalf("Inverse(%v, %v): %v", a, n, e)
			}
			if e != api.OK {
				continue
			}
			if nat.Cmp(inverse, n) >= 0 || !slices.Equal(ok(modn.Mul(a, inverse, n)), ok(modn.Mod(nat.Of(1), n))) {
				t.Fatalf("Inverse(%v, %v) = %v", a, n, inverse)
			}
		}
	}
}

// P3.6: the greatest common divisor parts both, and what both are multiplied by it is multiplied by.
func TestDivisors(t *testing.T) {
	ok := sure(t)
	l := numbers()
	for i, a := range l {
		for j, b := range l {
			divisor := modn.Gcd(a, b)
			if nat.Bits(divisor) > 0 && len(ok(modn.Mod(a, divisor)))+len(ok(modn.Mod(b, divisor))) > 0 {
				t.Fatalf("Gcd(%v, %v) = %v parts not both", a, b, divisor)
			}
			c := l[(5*i+j)%len(l)]
			if got := modn.Gcd(nat.Mul(a, c), nat.Mul(b, c)); !slices.Equal(got, nat.Mul(divisor, c)) {
				t.Fatalf("Gcd of %v and %v, both times %v, is %v", a, b, c, got)
			}
		}
	}
}

// calls are all functions that answer numbers, done on three.
var calls = map[string]func(a, b, c api.Nat) (api.Nat, api.Errno){
	"Mod":     func(a, _, c api.Nat) (api.Nat, api.Errno) { return modn.Mod(a, c) },
	"Mul":     modn.Mul,
	"Pow":     modn.Pow,
	"Gcd":     func(a, _, c api.Nat) (api.Nat, api.Errno) { return modn.Gcd(a, c), api.OK },
	"Inverse": func(a, _, c api.Nat) (api.Nat, api.Errno) { return modn.Inverse(a, c) },
}

// Rules 4 and 5: what is handed in is not changed, what lies behind it plays no part; what is handed out is new memory.
func TestMemory(t *testing.T) {
	l := numbers()
	for name, do := range calls {
		for i, first := range l {
			for _, third := range l {
				second := l[(i+9)%len(l)]
				a, aKept := kept(first)
				b, bKept := kept(second)
				c, cKept := kept(third)
				got, e := do(a, b, c)
				plain, plainE := do(slices.Clone(first), slices.Clone(second), slices.Clone(third))
				if e != plainE || !slices.Equal(got, plain) {
					t.Fatalf("%s of %v, %v, %v hangs on what lies behind them", name, first, second, third)
				}
				got = got[:cap(got)]
				for at := range got {
					got[at] = 0x77
				}
				if !aKept() || !bKept() || !cKept() {
					t.Fatalf("%s of %v, %v, %v: an argument was changed, or is shared", name, first, second, third)
				}
			}
		}
	}
}

// The calls that answer bools leave their arguments, too.
func TestMemoryOfTheOthers(t *testing.T) {
	for _, n := range numbers() {
		a, aKept := kept(n)
		bases, basesKept := kept(api.Nat{2, 3, 5})
		told := modn.Tells(a, 3)
		prime := modn.Prime(a, bases)
		if told != modn.Tells(slices.Clone(n), 3) || prime != modn.Prime(slices.Clone(n), []uint64{2, 3, 5}) {
			t.Fatalf("%v: what lies behind it was read", n)
		}
		if !aKept() || !basesKept() {
			t.Fatalf("%v, or the bases, were changed", n)
		}
	}
}

// A number may be handed in more than once to one call.
func TestOneNumberTwice(t *testing.T) {
	for name, do := range calls {
		for _, a := range numbers() {
			got, e := do(a, a, a)
			again, againE := do(a, slices.Clone(a), slices.Clone(a))
			if e != againE || !slices.Equal(got, again) {
				t.Errorf("%s of %v alone = %v, %v, want %v, %v", name, a, got, e, again, againE)
			}
		}
	}
}
