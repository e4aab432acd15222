package der_test

import (
	"bytes"
	"encoding/asn1"
	"math"
	"math/big"
	"math/rand"
	"slices"
	"strings"
	"testing"

	"clepsydra/api"
	"clepsydra/der"
	"clepsydra/nat"
)

// P7.3: Int, IntOf, Nat, NatOf, Text, TextOf.

// contentOf is what the library writes as a number's bytes.
func contentOf(t *testing.T, a *big.Int) []byte {
	t.Helper()
	b, err := asn1.Marshal(a)
	if err != nil {
		t.Fatal(err)
	}
	var v asn1.RawValue
	if _, err := asn1.Unmarshal(b, &v); err != nil {
		t.Fatal(err)
	}
	return v.Bytes
}

// ints are numbers of all lengths.
func ints() []int {
	l := []int{0, 1, -1, math.MaxInt, math.MinInt, math.MaxInt - 1, math.MinInt + 1, 300, -300, 123456789, -123456789}
	for i := range 63 {
		for _, more := range []int{-1, 0, 1} {
			l = append(l, 1<<i+more, -1<<i+more)
		}
	}
	r := rand.New(rand.NewSource(74))
	for i := range 64 {
		l = append(l, int(r.Uint64())>>i)
	}
	return l
}

func TestInt(t *testing.T) {
	all := ints()
	for a := -70000; a < 70000; a++ {
		all = append(all, a)
	}
	for _, a := range all {
		n := der.Int(a)
		if want := leaf(api.TagInt, contentOf(t, big.NewInt(int64(a)))...); !same(n, want) || !isRight(n) {
			t.Fatalf("Int(%d) = %v, want %v", a, n, want)
		}
		if got, e := der.IntOf(n); got != a || e != api.OK {
			t.Fatalf("IntOf(Int(%d)) = %d, %v", a, got, e)
		}
	}
	for a, want := range map[int][]byte{
		0: {0}, 1: {1}, 127: {127}, 128: {0, 128}, 255: {0, 255}, 256: {1, 0}, 32767: {127, 255}, 32768: {0, 128, 0}, -1: {255}, -128: {128}, -129: {255, 127},
		-256: {255, 0}, -32768: {128, 0}, -32769: {255, 127, 255}, math.MaxInt64: {127, 255, 255, 255, 255, 255, 255, 255}, math.MinInt64: {128, 0, 0, 0, 0, 0, 0, 0},
	} {
		if n := der.Int(a); !same(n, leaf(api.TagInt, want...)) {
			t.Errorf("Int(%d) = %v, want %v", a, n, want)
		}
	}
}

// strange are values of which no number and no text may be had.
func strange() []api.Node {
	kids := []api.Node{leaf(api.TagNull)}
	return []api.Node{
		{}, leaf(0, 5), leaf(api.TagBool, 0), leaf(api.TagBits, 0), leaf(api.TagOctets, 5), leaf(api.TagNull), seq(), set(), seq(leaf(api.TagInt, 5)), leaf(258, 5), leaf(-254, 5),
		{Tag: api.TagInt, Bytes: []byte{5}, Kids: kids}, {Tag: api.TagText, Bytes: []byte{65}, Kids: kids}, {Tag: api.TagInt, Kids: kids}, {Tag: api.TagText, Kids: kids},
		leaf(api.TagText, 31), leaf(api.TagText, 65, 127), leaf(api.TagText, 255), leaf(6, 65), leaf(22, 65), leaf(268, 65),
		leaf(api.TagInt), leaf(api.TagInt, 0, 0), leaf(api.TagInt, 0, 127), leaf(api.TagInt, 255, 255), leaf(api.TagInt, 255, 128),
		leaf(api.TagInt, 0, 127, 0, 0, 0, 0, 0, 0, 0, 0), leaf(api.TagInt, 255, 128, 0, 0, 0, 0, 0, 0, 0, 0),
	}
}

func TestIntOf(t *testing.T) {
	for _, n := range append(strange(), leaf(api.TagText, 65), leaf(api.TagText)) {
		a, e := der.IntOf(n)
		wantErr(t, "IntOf", a == 0, e, api.ErrForm)
	}
	most, least := new(big.Int).SetInt64(math.MaxInt), new(big.Int).SetInt64(math.MinInt)
	one := big.NewInt(1)
	for _, b := range []*big.Int{
		most.Add(most, one), least.Sub(least, one), new(big.Int).Lsh(one, 64), new(big.Int).Lsh(one, 71), new(big.Int).Neg(new(big.Int).Lsh(one, 71)),
		new(big.Int).SetUint64(math.MaxUint64), new(big.Int).Lsh(one, 4000), new(big.Int).Neg(new(big.Int).Lsh(one, 800000)),
	} {
		a, e := der.IntOf(leaf(api.TagInt, contentOf(t, b)...))
		wantErr(t, "IntOf", a == 0, e, api.ErrArg)
	}
}

func TestNat(t *testing.T) {
	r := rand.New(rand.NewSource(75))
	for bits := range 300 {
		one := big.NewInt(1)
		power := new(big.Int).Lsh(one, uint(bits))
		for _, b := range []*big.Int{power, new(big.Int).Sub(power, one), new(big.Int).Add(power, one), new(big.Int).Add(power, new(big.Int).Rand(r, power))} {
			natAs(t, b)
		}
	}
	for a := range int64(70000) {
		natAs(t, big.NewInt(a))
	}
	// Longer ones than nat writes.
	for _, bits := range []uint{8*65535 - 1, 8 * 65535, 8*65536 - 1, 8 * 65536, 8*65536 + 1, 8 * 70000} {
		natAs(t, new(big.Int).Lsh(big.NewInt(1), bits))
		natAs(t, new(big.Int).Sub(new(big.Int).Lsh(big.NewInt(1), bits), big.NewInt(1)))
	}
}

// natAs fails, if a natural number is not written as the library does it, with noughts at its end and without, or does not come back.
func natAs(t *testing.T, b *big.Int) {
	t.Helper()
	a := nat.Read(b.Bytes())
	want := leaf(api.TagInt, contentOf(t, b)...)
	for _, loose := range []api.Nat{a, append(slices.Clone(a), 0), append(slices.Clone(a), 0, 0, 0)} {
		if n := der.Nat(loose); !same(n, want) {
			t.Fatalf("Nat(%x) = %x, want %x", b, n.Bytes, want.Bytes)
		}
	}
	if got, e := der.NatOf(want); e != api.OK || !slices.Equal(got, a) {
		t.Fatalf("NatOf(%x) = %x, %v", want.Bytes, got, e)
	}
}

func TestNatOf(t *testing.T) {
	for _, n := range append(strange(), leaf(api.TagText, 65), leaf(api.TagText)) {
		a, e := der.NatOf(n)
		wantErr(t, "NatOf", len(a) == 0, e, api.ErrForm)
	}
	for _, b := range [][]byte{{255}, {128}, {128, 0}, {255, 127}, {254, 255}, append([]byte{128}, make([]byte, 9000)...), bytes.Repeat([]byte{129}, 100)} {
		a, e := der.NatOf(leaf(api.TagInt, b...))
		wantErr(t, "NatOf", len(a) == 0, e, api.ErrArg)
	}
	for _, b := range [][]byte{{0}, {127}, {0, 128}, {0, 255, 255, 255, 255, 255, 255, 255, 255}, {127, 0, 0, 0, 0, 0, 0, 0, 0}} {
		a, e := der.NatOf(leaf(api.TagInt, b...))
		if want := nat.Read(b); e != api.OK || !slices.Equal(a, want) {
			t.Errorf("NatOf(%x) = %x, %v, want %x", b, a, e, want)
		}
	}
}

func TestText(t *testing.T) {
	all := make([]byte, 0, 95)
	for c := byte(32); c <= 126; c++ {
		all = append(all, c)
	}
	for _, s := range []string{"", " ", "~", "a", "The time, told.", string(all), strings.Repeat("time ", 20000)} {
		n, e := der.Text(s)
		if e != api.OK || !same(n, leaf(api.TagText, []byte(s)...)) {
			t.Errorf("Text(%q) = %v, %v", s, n, e)
		}
		if got, e := der.TextOf(n); got != s || e != api.OK {
			t.Errorf("TextOf(Text(%q)) = %q, %v", s, got, e)
		}
	}
	for c := range 256 {
		for _, s := range []string{string([]byte{byte(c)}), "time" + string([]byte{byte(c)}), string([]byte{byte(c)}) + "time", "ti" + string([]byte{byte(c)}) + "me"} {
			n, e := der.Text(s)
			if c < 32 || c > 126 {
				wantErr(t, "Text", same(n, api.Node{}), e, api.ErrArg)
				got, e := der.TextOf(leaf(api.TagText, []byte(s)...))
				wantErr(t, "TextOf", got == "", e, api.ErrForm)
			} else if e != api.OK || !same(n, leaf(api.TagText, []byte(s)...)) {
				t.Errorf("Text(%q) = %v, %v", s, n, e)
			}
		}
	}
	for _, s := range []string{"é", "a\nb", "日", "\x00"} {
		n, e := der.Text(s)
		wantErr(t, "Text", same(n, api.Node{}), e, api.ErrArg)
	}
}

func TestTextOf(t *testing.T) {
	for _, n := range append(strange(), leaf(api.TagInt, 65)) {
		s, e := der.TextOf(n)
		wantErr(t, "TextOf", s == "", e, api.ErrForm)
	}
}
