package cert_test

import (
	"bytes"
	"encoding/asn1"
	"math"
	"math/big"
	"math/rand"
	"slices"
	"strings"
	"testing"

	"clepsydra/api"
	"clepsydra/cert"
	"clepsydra/der"
	"clepsydra/nat"
)

// P8.1: Body, Write, Read.

func TestBodyAndWrite(t *testing.T) {
	for _, c := range rights() {
		form := formOf(c)
		b, e := cert.Body(c)
		if want := marshalled(form.Body); e != api.OK || !bytes.Equal(b, want) {
			t.Fatalf("Body(%v) = %x, %v, want %x", c, b, e, want)
		}
		b, e = cert.Write(c)
		if want := marshalled(form); e != api.OK || !bytes.Equal(b, want) {
			t.Fatalf("Write(%v) = %x, %v, want %x", c, b, e, want)
		}
	}
	for _, c := range wrongs() {
		b, e := cert.Body(c)
		if e != api.ErrCert || len(b) > 0 {
			t.Errorf("Body(%v) = %x, %v", c, b, e)
		}
		b, e = cert.Write(c)
		if e != api.ErrCert || len(b) > 0 {
			t.Errorf("Write(%v) = %x, %v", c, b, e)
		}
	}
}

func TestBytesOfTheExample(t *testing.T) {
	body := []byte{48, 30, 2, 1, 1, 12, 1, 97, 12, 1, 97, 48, 6, 2, 1, 0, 2, 1, 9, 48, 8, 2, 3, 0, 251, 251, 2, 1, 17, 2, 1, 1}
	if b, e := cert.Body(small()); e != api.OK || !bytes.Equal(b, body) {
		t.Errorf("Body = %v, %v, want %v", b, e, body)
	}
	whole := slices.Concat([]byte{48, 34}, body, []byte{4, 0})
	if b, e := cert.Write(small()); e != api.OK || !bytes.Equal(b, whole) {
		t.Errorf("Write = %v, %v, want %v", b, e, whole)
	}
	c, e := cert.Read(whole)
	wantCert(t, "Read", c, e, small())
	signed := slices.Concat([]byte{48, 37}, body, []byte{4, 3, 7, 8, 9})
	c, e = cert.Read(signed)
	wantCert(t, "Read", c, e, with(func(c *api.Cert) { c.Sig = []byte{7, 8, 9} }))
}

// trimmed is a certificate whose numbers are trimmed.
func trimmed(c api.Cert) api.Cert {
	c.N, c.E = nat.Trim(c.N), nat.Trim(c.E)
	return c
}

// P8.3: what is written is read as it was, what is read is written as it stood.
func TestWrittenAndRead(t *testing.T) {
	for _, c := range rights() {
		b := marshalled(formOf(c))
		got, e := cert.Read(b)
		wantCert(t, "Read", got, e, trimmed(c))
		again, e := cert.Write(got)
		if e != api.OK || !bytes.Equal(again, b) {
			t.Fatalf("Write(Read(%x)) = %x, %v", b, again, e)
		}
	}
}

func TestReadErrorsOfDer(t *testing.T) {
	b, _ := cert.Write(small())
	deep := []byte{}
	for range 17 {
		deep = slices.Concat([]byte{48, byte(len(deep))}, deep)
	}
	for _, c := range []struct {
		b    []byte
		want api.Errno
	}{
		{nil, api.ErrShort}, {b[:1], api.ErrShort}, {b[:len(b)-1], api.ErrShort}, {append(bytes.Clone(b), 0), api.ErrRest}, {append(bytes.Clone(b), b...), api.ErrRest},
		{[]byte{6, 0}, api.ErrTag}, {[]byte{48, 128}, api.ErrSize}, {slices.Concat([]byte{48, 129, 34}, b[2:]), api.ErrSize}, {deep, api.ErrDeep},
		{make([]byte, api.MaxDer+1), api.ErrLong}, {slices.Concat([]byte{48, 130, 0x40, 0}, bytes.Repeat([]byte{5, 0}, 0x2000)), api.ErrLong},
		{[]byte{2, 2, 0, 1}, api.ErrValue}, {[]byte{48, 2, 5, 0, 0}, api.ErrRest}, {[]byte{5, 0, 0}, api.ErrRest}, {[]byte{48, 2, 2, 0}, api.ErrValue},
	} {
		got, e := cert.Read(c.b)
		wantNone(t, "Read", got, e, c.want)
	}
	for length := range b {
		got, e := cert.Read(b[:length])
		wantNone(t, "Read", got, e, api.ErrShort)
	}
	// A number with a byte too many is none of der's, wherever it stands: here the Serial.
	loose := slices.Concat([]byte{48, 35, 48, 31, 2, 2, 0, 1}, b[7:])
	got, e := cert.Read(loose)
	wantNone(t, "Read", got, e, api.ErrValue)
}

// wordNode is the value that a certificate is built as.
func wordNode(t *testing.T, c api.Cert) api.Node {
	t.Helper()
	n, fault := der.Read(marshalled(formOf(c)))
	if fault.Code != api.OK {
		t.Fatalf("der.Read: %v", fault)
	}
	return n
}

// refused fails, if a value is read as a certificate.
func refused(t *testing.T, what string, n api.Node) {
	t.Helper()
	b, e := der.Write(n)
	if e != api.OK {
		t.Fatalf("%s: der.Write: %v", what, e)
	}
	got, e := cert.Read(b)
	wantNone(t, what, got, e, api.ErrCert)
}

func text(s string) api.Node { return api.Node{Tag: api.TagText, Bytes: []byte(s)} }

func seq(kids ...api.Node) api.Node { return api.Node{Tag: api.TagSeq, Kids: kids} }

// others are values of all tags, none of them of the tag that is said.
func others(tag int) []api.Node {
	l := []api.Node{
		{Tag: api.TagBool, Bytes: []byte{255}}, {Tag: api.TagInt, Bytes: []byte{1}}, {Tag: api.TagBits, Bytes: []byte{0, 65}}, {Tag: api.TagOctets, Bytes: []byte("ab")},
		{Tag: api.TagNull}, text("ab"), seq(), {Tag: api.TagSet}, {Tag: api.TagSet, Kids: []api.Node{der.Int(0), der.Int(9)}}, seq(text("ab")),
		{Tag: api.TagSet, Kids: []api.Node{der.Int(17), der.Int(64507)}},
	}
	return slices.DeleteFunc(l, func(n api.Node) bool { return n.Tag == tag })
}

func TestReadNotBuiltSo(t *testing.T) {
	for _, n := range others(0) {
		refused(t, "another value", n)
	}
	refused(t, "nothing in it", seq())
	body := func() api.Node { return wordNode(t, small()).Kids[0] }
	octets := api.Node{Tag: api.TagOctets}
	for _, n := range []api.Node{
		body(), seq(body()), seq(octets), seq(octets, body()), seq(body(), octets, octets), seq(body(), body(), octets), seq(body(), body()), seq(seq(), octets),
		seq(seq(body()), octets), seq(body(), seq(octets)), seq(seq(body(), octets)),
		{Tag: api.TagSet, Kids: []api.Node{octets, body()}},
	} {
		refused(t, "built otherwise", n)
	}
	for _, other := range others(api.TagOctets) {
		refused(t, "another value as a signature", seq(body(), other))
	}
	for _, other := range others(0) {
		refused(t, "another value as the body", seq(other, octets))
	}
	sorted := body()
	sorted.Tag = api.TagSet
	slices.SortFunc(sorted.Kids, func(a, b api.Node) int { return bytes.Compare(bytesOf(a), bytesOf(b)) })
	refused(t, "a set as the body", seq(sorted, octets))
}

// bytesOf is a value's bytes.
func bytesOf(n api.Node) []byte {
	b, _ := der.Write(n)
	return b
}

func TestReadWrongParts(t *testing.T) {
	for i := range 6 {
		whole := wordNode(t, small())
		body := whole.Kids[0].Kids
		right := body[i]
		whole.Kids[0].Kids = slices.Delete(slices.Clone(body), i, i+1)
		refused(t, "a part less", whole)
		whole.Kids[0].Kids = slices.Insert(slices.Clone(body), i, right)
		refused(t, "a part more", whole)
		whole.Kids[0].Kids = append(slices.Clone(body), api.Node{Tag: api.TagNull})
		refused(t, "a part more", whole)
		whole.Kids[0].Kids = body
		for _, other := range others(right.Tag) {
			body[i] = other
			refused(t, "another value", whole)
		}
		body[i] = seq(right)
		refused(t, "a part deeper", whole)
	}
	for i := 3; i <= 4; i++ {
		for j := range 2 {
			whole := wordNode(t, small())
			pair := &whole.Kids[0].Kids[i]
			right := pair.Kids[j]
			pair.Kids = slices.Delete(slices.Clone(pair.Kids), j, j+1)
			refused(t, "a number less", whole)
			pair.Kids = []api.Node{right}
			refused(t, "a number less", whole)
			pair.Kids = wordNode(t, small()).Kids[0].Kids[i].Kids
			for _, other := range others(api.TagInt) {
				pair.Kids[j] = other
				refused(t, "another value", whole)
			}
			pair.Kids[j] = right
			pair.Kids = append(pair.Kids, right)
			refused(t, "a number more", whole)
		}
	}
}

// intOf is the TagInt of a number of any size.
func intOf(a *big.Int) api.Node {
	n, fault := der.Read(marshalled(a))
	if fault.Code != api.OK {
		panic("no number")
	}
	return n
}

func TestReadNumbersThatDoNotFit(t *testing.T) {
	one := big.NewInt(1)
	for _, a := range []*big.Int{
		big.NewInt(-1), big.NewInt(-129), new(big.Int).Lsh(one, 32), new(big.Int).Add(new(big.Int).Lsh(one, 32), one), new(big.Int).Lsh(one, 63), new(big.Int).Lsh(one, 64),
		new(big.Int).Add(new(big.Int).Lsh(one, 64), one), big.NewInt(math.MinInt64), big.NewInt(math.MaxInt64), new(big.Int).Neg(new(big.Int).Lsh(one, 64)), new(big.Int).Lsh(one, 5000),
		big.NewInt(math.MinInt64 + 5), new(big.Int).Sub(one, new(big.Int).Lsh(one, 32)),
	} {
		for i, place := range []func(n api.Node) *api.Node{
			func(n api.Node) *api.Node { return &n.Kids[0].Kids[0] }, func(n api.Node) *api.Node { return &n.Kids[0].Kids[3].Kids[0] },
			func(n api.Node) *api.Node { return &n.Kids[0].Kids[3].Kids[1] }, func(n api.Node) *api.Node { return &n.Kids[0].Kids[5] },
			func(n api.Node) *api.Node { return &n.Kids[0].Kids[4].Kids[1] },
		} {
			c := small()
			c.To = math.MaxUint32
			whole := wordNode(t, c)
			*place(whole) = intOf(a)
			if i < 4 || a.Sign() < 0 || a.BitLen() > 15 {
				refused(t, "a number that does not fit", whole)
			}
		}
	}
	for _, a := range []*big.Int{big.NewInt(-64507), big.NewInt(-1), big.NewInt(-64508), new(big.Int).Neg(bigOf(near(200, 1)))} {
		whole := wordNode(t, small())
		whole.Kids[0].Kids[4].Kids[0] = intOf(a)
		refused(t, "an N below 0", whole)
		whole = wordNode(t, small())
		whole.Kids[0].Kids[4].Kids[1] = intOf(a)
		refused(t, "an E below 0", whole)
	}
}

func TestReadNotRight(t *testing.T) {
	tried := 0
	for _, c := range wrongs() {
		b, err := asn1.Marshal(formOf(c))
		if err != nil || len(b) > api.MaxDer {
			continue
		}
		want := api.ErrCert
		if _, fault := der.Read(b); fault.Code != api.OK {
			want = fault.Code
		}
		got, e := cert.Read(b)
		wantNone(t, "Read", got, e, want)
		tried++
	}
	if tried < 50 {
		t.Errorf("only %d wrong ones are written", tried)
	}
	whole := wordNode(t, small())
	for _, s := range []string{"", " ", "a b", strings.Repeat("a", 33), " a", "a "} {
		for i := 1; i <= 2; i++ {
			whole.Kids[0].Kids[i] = text(s)
			refused(t, "no name", whole)
			whole.Kids[0].Kids[i] = text("a")
		}
	}
}

// What is changed by chance is read just where the library writes it so, and it is right.
func TestReadByChance(t *testing.T) {
	r := rand.New(rand.NewSource(82))
	taken := 0
	for _, c := range rights() {
		plain := marshalled(formOf(c))
		for range 150 {
			b := bytes.Clone(plain)
			b[r.Intn(len(b))] = byte(r.Intn(256))
			switch at := r.Intn(len(b)); r.Intn(20) {
			case 0:
				b = slices.Delete(b, at, at+1)
			case 1:
				b = slices.Insert(b, at, byte(r.Intn(256)))
			}
			got, e := cert.Read(b)
			want, ok := read(b)
			_, fault := der.Read(b)
			switch {
			case ok:
				wantCert(t, "Read", got, e, want)
				taken++
			case fault.Code != api.OK:
				wantNone(t, "Read", got, e, fault.Code)
			default:
				wantNone(t, "Read", got, e, api.ErrCert)
			}
		}
	}
	if taken < 5000 {
		t.Errorf("only %d changed ones were read", taken)
	}
}
