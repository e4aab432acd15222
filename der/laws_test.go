package der_test

import (
	"bytes"
	"math"
	"math/rand"
	"slices"
	"testing"

	"clepsydra/api"
	"clepsydra/der"
)

// rights are right values, at the limits and by chance.
func rights() []api.Node {
	r := rand.New(rand.NewSource(76))
	l := []api.Node{
		leaf(api.TagNull), seq(), set(), octets(127), octets(128), octets(255), octets(256), octets(300), octets(5000), seq(octets(124), leaf(5)), seq(octets(125), leaf(5)),
		within(api.TagSeq, 15, leaf(api.TagBool, 255)), within(api.TagSet, 15, set()), many(60), many(63), many(64), many(127), many(128), within(api.TagSeq, 9, octets(120)),
		set(octets(9), octets(128), many(80)),
	}
	for range 300 {
		l = append(l, anyRight(r, 6))
	}
	return l
}

// P7.4: what is written is read as it was; what is read is right, and is written as it stood.
func TestOneWay(t *testing.T) {
	for _, n := range append(rights(), octets(65531), many(api.MaxNodes-1), seq(many(4000), octets(57000))) {
		b, e := der.Write(n)
		if e != api.OK {
			t.Fatalf("Write(%v): %v", n, e)
		}
		got, fault := der.Read(b)
		if fault != (api.Fault{}) || !same(got, n) {
			t.Fatalf("%v is read as %v, %v", n, got, fault)
		}
	}
	r := rand.New(rand.NewSource(77))
	often := 0
	for range 60000 {
		b := bytesOf(anyRight(r, 3))
		for range 1 + r.Intn(2) {
			b = changed(r, b)
		}
		n, fault := der.Read(b)
		if fault.Code != api.OK {
			continue
		}
		often++
		got, e := der.Write(n)
		if !der.Right(n) || e != api.OK || !bytes.Equal(got, b) {
			t.Fatalf("%x is written as %x, %v", b, got, e)
		}
	}
	if often < 2000 {
		t.Errorf("only %d changed values were read", often)
	}
}

// P7.5: numbers and texts go there and back, by their bytes, too.
func TestThereAndBack(t *testing.T) {
	for _, a := range ints() {
		if got, e := der.IntOf(again(t, der.Int(a))); got != a || e != api.OK {
			t.Errorf("%d comes back as %d, %v", a, got, e)
		}
	}
	for _, a := range []api.Nat{nil, {1}, {127}, {128}, {math.MaxUint64}, {0, 1}, {5, 1 << 63}, {5, 1<<63 - 1}, slices.Repeat(api.Nat{math.MaxUint64}, 64)} {
		if got, e := der.NatOf(again(t, der.Nat(a))); !slices.Equal(got, a) || e != api.OK {
			t.Errorf("%x comes back as %x, %v", a, got, e)
		}
		if got, e := der.NatOf(der.Nat(append(slices.Clone(a), 0, 0))); !slices.Equal(got, a) || e != api.OK {
			t.Errorf("%x comes back as %x, %v", a, got, e)
		}
	}
	for _, s := range []string{"", "a", "The time, told.", "~ ~"} {
		n, _ := der.Text(s)
		if got, e := der.TextOf(again(t, n)); got != s || e != api.OK {
			t.Errorf("%q comes back as %q, %v", s, got, e)
		}
	}
}

// again is a value as it is read where it was written.
func again(t *testing.T, n api.Node) api.Node {
	t.Helper()
	b, e := der.Write(n)
	if e != api.OK {
		t.Fatalf("Write(%v): %v", n, e)
	}
	got, fault := der.Read(b)
	if fault.Code != api.OK {
		t.Fatalf("Read(%x): %v", b, fault)
	}
	return got
}

// P7.6: a value's bytes, with others behind them, are read up to these; cut anywhere, they end too soon.
func TestMoreAndLess(t *testing.T) {
	for _, n := range rights() {
		b, _ := der.Write(n)
		for _, more := range [][]byte{{0}, {5, 0}, {48}, {255, 255, 255}, make([]byte, 300)} {
			if _, fault := der.Read(slices.Concat(b, more)); fault != (api.Fault{At: len(b), Code: api.ErrRest}) {
				t.Fatalf("%x with %x behind it: %v", b, more, fault)
			}
		}
		for length := range b {
			if _, fault := der.Read(b[:length]); fault != (api.Fault{At: length, Code: api.ErrShort}) {
				t.Fatalf("%x cut to %d: %v", b, length, fault)
			}
		}
	}
}

// Rules 4 and 5: what is handed in is not changed, what lies behind it plays no part; what is handed out is new memory.
func TestMemoryOfValues(t *testing.T) {
	r := rand.New(rand.NewSource(78))
	for _, plain := range append(rights(), strange()...) {
		for _, plain := range []api.Node{plain, spoiled(r, plain)} {
			n, nKept := keptNode(plain)
			if der.Right(n) != der.Right(plain) {
				t.Fatal("Right hangs on what lies behind a value")
			}
			b, e := der.Write(n)
			want, code := der.Write(plain)
			if e != code || !bytes.Equal(b, want) {
				t.Fatal("Write hangs on what lies behind a value")
			}
			fillBytes(b)
			a, e := der.NatOf(n)
			wantA, code := der.NatOf(plain)
			if e != code || !slices.Equal(a, wantA) {
				t.Fatal("NatOf hangs on what lies behind a value")
			}
			for i := range a[:cap(a)] {
				a[:cap(a)][i] = 9
			}
			i, intErr := der.IntOf(n)
			s, textErr := der.TextOf(n)
			wantI, wantIntErr := der.IntOf(plain)
			wantS, wantTextErr := der.TextOf(plain)
			if i != wantI || s != wantS || intErr != wantIntErr || textErr != wantTextErr {
				t.Fatal("IntOf or TextOf hangs on what lies behind a value")
			}
			if !nKept() {
				t.Fatalf("%v was changed, or is shared", plain)
			}
			fillBytes(n.Bytes)
			if s != wantS {
				t.Fatal("a text shares its value's memory")
			}
		}
	}
}

func TestMemoryOfRead(t *testing.T) {
	for _, want := range rights() {
		plain, _ := der.Write(want)
		b, bKept := kept(plain)
		n, fault := der.Read(b)
		if fault.Code != api.OK || !same(n, want) {
			t.Fatalf("Read hangs on what lies behind its bytes: %v", fault)
		}
		other, _ := der.Read(plain)
		fill(n)
		if !bKept() || !same(other, want) {
			t.Fatal("Read changed its bytes, or shares them")
		}
		n, _ = der.Read(plain)
		apart(t, n)
	}
}

// apart fails, if two lists of a value share memory: each is written over with a number of its own.
func apart(t *testing.T, n api.Node) {
	t.Helper()
	bytesLists, kidsLists := listsOf(n)
	for i, l := range bytesLists {
		for j := range l {
			l[j] = byte(i)
		}
	}
	for i, l := range kidsLists {
		for j := range l {
			l[j].Tag = i
		}
	}
	for i, l := range bytesLists {
		if slices.ContainsFunc(l, func(b byte) bool { return b != byte(i) }) {
			t.Fatal("bytes share memory")
		}
	}
	for i, l := range kidsLists {
		if slices.ContainsFunc(l, func(kid api.Node) bool { return kid.Tag != i }) {
			t.Fatal("kids share memory")
		}
	}
}

// listsOf are all lists of a value, with all of their memory.
func listsOf(n api.Node) ([][]byte, [][]api.Node) {
	bytesLists, kidsLists := [][]byte{n.Bytes[:cap(n.Bytes)]}, [][]api.Node{n.Kids[:cap(n.Kids)]}
	for _, kid := range n.Kids {
		b, k := listsOf(kid)
		bytesLists, kidsLists = append(bytesLists, b...), append(kidsLists, k...)
	}
	return bytesLists, kidsLists
}

func TestMemoryOfNumbers(t *testing.T) {
	whole := api.Nat{5, math.MaxUint64, 0, 7, 8}
	a := whole[:3]
	n := der.Nat(a)
	if !same(n, der.Nat(api.Nat{5, math.MaxUint64})) {
		t.Error("Nat hangs on what lies behind its number")
	}
	other := der.Nat(a)
	fill(n)
	if !slices.Equal(whole, api.Nat{5, math.MaxUint64, 0, 7, 8}) || same(n, other) {
		t.Error("Nat changed its number, or shares memory")
	}
	one, two := der.Int(300), der.Int(300)
	fill(one)
	if !same(two, leaf(api.TagInt, 1, 44)) {
		t.Error("Int shares memory")
	}
	first, _ := der.Text("time")
	second, _ := der.Text("time")
	fill(first)
	if s, _ := der.TextOf(second); s != "time" {
		t.Error("Text shares memory")
	}
}

// P1: no call panics, and each ends, at arguments of any size.
func TestAnySize(t *testing.T) {
	huge := api.Nat(slices.Repeat([]uint64{7, math.MaxUint64}, 200000))
	n := der.Nat(huge)
	if got, e := der.NatOf(n); e != api.OK || !slices.Equal(got, huge) || len(n.Bytes) != 3200001 {
		t.Errorf("a long number comes back: %v, of %d bytes", e, len(n.Bytes))
	}
	_, e := der.IntOf(n)
	wantErr(t, "IntOf", true, e, api.ErrArg)
	b, e := der.Write(n)
	wantErr(t, "Write", len(b) == 0, e, api.ErrLong)
	if n := der.Nat(make(api.Nat, 1<<20)); !same(n, leaf(api.TagInt, 0)) {
		t.Errorf("many noughts are %d bytes", len(n.Bytes))
	}
	wide := seq(make([]api.Node, 1<<22)...)
	if der.Right(wide) {
		t.Error("many kids are right")
	}
	r := rand.New(rand.NewSource(79))
	for range 2000 {
		b := make([]byte, r.Intn(70000))
		r.Read(b)
		readAs(t, b)
	}
}
