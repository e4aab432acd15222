package cert_test

import (
	"bytes"
	"encoding/asn1"
	"math"
	"math/big"
	"math/rand"
	"slices"
	"strings"
	"testing"

	"clepsydra/api"
	"clepsydra/nat"
	"clepsydra/pkey"
)

const ones = math.MaxUint64

// bodyForm and wholeForm are how the library is told what a certificate is built of.
type bodyForm struct {
	Serial          int64
	Issuer, Subject string `asn1:"utf8"`
	Dates           datesForm
	Key             keyForm
	Usage           int64
}

type datesForm struct{ From, To int64 }

type keyForm struct{ N, E *big.Int }

type wholeForm struct {
	Body bodyForm
	Sig  []byte
}

// formOf is a certificate as the library is told of it.
func formOf(c api.Cert) wholeForm {
	return wholeForm{
		Body: bodyForm{
			Serial: int64(c.Serial), Issuer: c.Issuer, Subject: c.Subject, Dates: datesForm{int64(c.From), int64(c.To)},
			Key: keyForm{bigOf(c.N), bigOf(c.E)}, Usage: int64(c.Usage),
		},
		Sig: c.Sig,
	}
}

// marshalled is what the library writes.
func marshalled(form any) []byte {
	b, err := asn1.Marshal(form)
	if err != nil {
		panic(err)
	}
	return b
}

// isRight tells whether a certificate is right, word by word.
func isRight(c api.Cert) bool {
	n, e := bigOf(c.N), bigOf(c.E)
	key := n.Bit(0) == 1 && n.BitLen() >= 16 && n.BitLen() <= 1024 && e.Bit(0) == 1 && e.Cmp(big.NewInt(1)) > 0 && e.Cmp(n) < 0
	return isName(c.Issuer) && isName(c.Subject) && c.From <= c.To && key && c.Usage >= 0 && c.Usage <= 7 && len(c.Sig) <= 128
}

func isName(s string) bool {
	return len(s) >= 1 && len(s) <= 32 && !slices.ContainsFunc([]byte(s), func(b byte) bool { return b < 33 || b > 126 })
}

// read is the certificate of some bytes, as the library reads them: false, if they are not what it writes of a right one.
func read(b []byte) (api.Cert, bool) {
	var w wholeForm
	rest, err := asn1.Unmarshal(b, &w)
	if err != nil || len(rest) > 0 || w.Body.Key.N.Sign() < 0 || w.Body.Key.E.Sign() < 0 {
		return api.Cert{}, false
	}
	for _, n := range []int64{w.Body.Serial, w.Body.Dates.From, w.Body.Dates.To} {
		if n < 0 || n > math.MaxUint32 {
			return api.Cert{}, false
		}
	}
	c := api.Cert{
		Serial: uint32(w.Body.Serial), Issuer: w.Body.Issuer, Subject: w.Body.Subject, From: uint32(w.Body.Dates.From), To: uint32(w.Body.Dates.To),
		N: natOf(w.Body.Key.N), E: natOf(w.Body.Key.E), Usage: int(w.Body.Usage), Sig: w.Sig,
	}
	return c, isRight(c) && bytes.Equal(marshalled(w), b)
}

// bigOf is a number as the library has it.
func bigOf(a api.Nat) *big.Int {
	out := new(big.Int)
	for i := len(a) - 1; i >= 0; i-- {
		out.Or(out.Lsh(out, 64), new(big.Int).SetUint64(a[i]))
	}
	return out
}

// natOf is a number of the library as the program has it.
func natOf(b *big.Int) api.Nat { return nat.Read(b.Bytes()) }

// near is 2 to some power, and some more, or less.
func near(power uint, more int64) api.Nat {
	b := new(big.Int).Lsh(big.NewInt(1), power)
	return natOf(b.Add(b, big.NewInt(more)))
}

// small is the certificate of the example.
func small() api.Cert {
	return api.Cert{Serial: 1, Issuer: "a", Subject: "a", From: 0, To: 9, N: nat.Of(64507), E: nat.Of(17), Usage: 1}
}

// with is the certificate of the example with something changed.
func with(change func(c *api.Cert)) api.Cert {
	c := small()
	change(&c)
	return c
}

// rights are right certificates, at the edges of each field, and by chance.
func rights() []api.Cert {
	l := []api.Cert{
		small(), with(func(c *api.Cert) { c.Serial = 0 }), with(func(c *api.Cert) { c.Serial = math.MaxUint32 }), with(func(c *api.Cert) { c.Serial = 1 << 31 }),
		with(func(c *api.Cert) { c.Issuer = strings.Repeat("!", 32) }), with(func(c *api.Cert) { c.Subject = strings.Repeat("~", 32) }),
		with(func(c *api.Cert) { c.Issuer, c.Subject = "host-1.of/time", "h0" }), with(func(c *api.Cert) { c.To = 0 }), with(func(c *api.Cert) { c.From = 9 }),
		with(func(c *api.Cert) { c.To = math.MaxUint32 }), with(func(c *api.Cert) { c.From, c.To = math.MaxUint32, math.MaxUint32 }),
		with(func(c *api.Cert) { c.Usage = 0 }), with(func(c *api.Cert) { c.Usage = 7 }), with(func(c *api.Cert) { c.Usage = api.UsePrivate }),
		with(func(c *api.Cert) { c.Sig = make([]byte, 128) }), with(func(c *api.Cert) { c.Sig = []byte{0} }), with(func(c *api.Cert) { c.Sig = bytes.Repeat([]byte{255}, 127) }),
		with(func(c *api.Cert) { c.N = near(1024, -1) }), with(func(c *api.Cert) { c.N, c.E = near(1024, -1), near(1024, -3) }), with(func(c *api.Cert) { c.N, c.E = nat.Of(32769), nat.Of(32767) }),
		with(func(c *api.Cert) { c.N, c.E = api.Nat{64507, 0, 0}, api.Nat{17, 0} }), with(func(c *api.Cert) { c.E = nat.Of(3) }), with(func(c *api.Cert) { c.N = api.Nat{5, 9} }),
		with(func(c *api.Cert) {
			*c = api.Cert{
				Serial: math.MaxUint32, Issuer: strings.Repeat("~", 32), Subject: strings.Repeat("}", 32), From: math.MaxUint32, To: math.MaxUint32,
				N: near(1024, -1), E: near(1024, -3), Usage: 7, Sig: bytes.Repeat([]byte{200}, 128),
			}
		}),
	}
	r := rand.New(rand.NewSource(81))
	for range 200 {
		l = append(l, anyCert(r))
	}
	return l
}

// anyCert is a right certificate, by chance.
func anyCert(r *rand.Rand) api.Cert {
	n := make(api.Nat, 1+r.Intn(16))
	for i := range n {
		n[i] = r.Uint64() >> r.Intn(40)
	}
	n[0] |= 1
	n[len(n)-1] |= 1 << 20
	c := api.Cert{
		Serial: r.Uint32() >> r.Intn(32), Issuer: anyName(r), Subject: anyName(r), To: r.Uint32(), N: n, E: nat.Of(uint64(3 + 2*r.Intn(40000))),
		Usage: r.Intn(8), Sig: make([]byte, r.Intn(129)),
	}
	c.From = uint32(r.Int63n(int64(c.To) + 1))
	r.Read(c.Sig)
	return c
}

// anyName is a name, by chance.
func anyName(r *rand.Rand) string {
	b := make([]byte, 1+r.Intn(32))
	for i := range b {
		b[i] = byte(33 + r.Intn(94))
	}
	return string(b)
}

// wrongs are certificates of which one thing is wrong.
func wrongs() []api.Cert {
	l := []api.Cert{
		{}, with(func(c *api.Cert) { c.From, c.To = 1, 0 }), with(func(c *api.Cert) { c.From = 10 }), with(func(c *api.Cert) { c.From = math.MaxUint32 }),
		with(func(c *api.Cert) { c.N = nil }), with(func(c *api.Cert) { c.E = nil }), with(func(c *api.Cert) { c.N = api.Nat{0, 0} }), with(func(c *api.Cert) { c.N = nat.Of(64506) }),
		with(func(c *api.Cert) { c.N = nat.Of(32767) }), with(func(c *api.Cert) { c.N = near(1024, 1) }), with(func(c *api.Cert) { c.E = nat.Of(16) }),
		with(func(c *api.Cert) { c.E = nat.Of(1) }), with(func(c *api.Cert) { c.E = nat.Of(64507) }), with(func(c *api.Cert) { c.E = nat.Of(64509) }),
		with(func(c *api.Cert) { c.E = api.Nat{17, 1} }), with(func(c *api.Cert) { c.N = slices.Repeat(api.Nat{ones}, 20000) }),
		with(func(c *api.Cert) { c.Usage = -1 }), with(func(c *api.Cert) { c.Usage = 8 }), with(func(c *api.Cert) { c.Usage = math.MinInt }), with(func(c *api.Cert) { c.Usage = math.MaxInt }),
		with(func(c *api.Cert) { c.Usage = 1<<32 + 1 }), with(func(c *api.Cert) { c.Sig = make([]byte, 129) }), with(func(c *api.Cert) { c.Sig = make([]byte, 100000) }),
	}
	for _, s := range wrongNames() {
		l = append(l, with(func(c *api.Cert) { c.Issuer = s }), with(func(c *api.Cert) { c.Subject = s }))
	}
	return l
}

// wrongNames are texts that are no names.
func wrongNames() []string {
	l := []string{"", strings.Repeat("a", 33), strings.Repeat("a", 100000), " ", "a b", "a ", " a", "\x7f", "a\x7f", "\x00", "a\nb", "é", "日", "a\xff", "\x80"}
	for b := range byte(33) {
		l = append(l, "a"+string([]byte{b})+"b")
	}
	return l
}

// wantCert fails, if an answer is not the certificate that is wanted, and OK.
func wantCert(t *testing.T, what string, got api.Cert, e api.Errno, want api.Cert) {
	t.Helper()
	if e != api.OK || !same(got, want) {
		t.Fatalf("%s = %v, %v, want %v", what, got, e, want)
	}
}

// wantNone fails, if an answer is not the error that is wanted, and nothing else.
func wantNone(t *testing.T, what string, got api.Cert, e, want api.Errno) {
	t.Helper()
	if e != want || !same(got, api.Cert{}) {
		t.Fatalf("%s = %v, %v, want the error %v", what, got, e, want)
	}
}

// same tells whether two certificates have the same in each field, and the same limbs.
func same(a, b api.Cert) bool {
	return a.Serial == b.Serial && a.Issuer == b.Issuer && a.Subject == b.Subject && a.From == b.From && a.To == b.To && a.Usage == b.Usage &&
		slices.Equal(a.N, b.N) && slices.Equal(a.E, b.E) && bytes.Equal(a.Sig, b.Sig)
}

// drawn is as many bytes as are said, the same ones in each run.
func drawn(seed int64, n int) []byte {
	b := make([]byte, n)
	rand.New(rand.NewSource(seed)).Read(b)
	return b
}

// keyOf is a key of two primes.
func keyOf(t *testing.T, seed int64, digits int) api.Key {
	t.Helper()
	k, _, e := pkey.Draw(drawn(seed, 40000), digits, 65537)
	if e != api.OK {
		t.Fatalf("no key of %d digits: %v", digits, e)
	}
	return k
}

// own is a certificate of a key's holder.
func own(k api.Key, issuer, subject string) api.Cert {
	return api.Cert{Serial: 7, Issuer: issuer, Subject: subject, From: 100, To: 200, N: k.N, E: k.E, Usage: api.UseTrusted | api.UseIdentity}
}

// kept is a copy of a list, with others behind its end, and what tells whether all of it is as it was.
func kept[T uint64 | byte](l []T) ([]T, func() bool) {
	whole := slices.Concat(l, []T{5, 255, 6, 3})
	before := slices.Clone(whole)
	return whole[:len(l)], func() bool { return slices.Equal(whole, before) }
}

// keptCert is the same of a certificate.
func keptCert(c api.Cert) (api.Cert, func() bool) {
	n, nKept := kept(c.N)
	e, eKept := kept(c.E)
	sig, sigKept := kept(c.Sig)
	c.N, c.E, c.Sig = n, e, sig
	return c, func() bool { return nKept() && eKept() && sigKept() }
}

// keptKey is the same of a key.
func keptKey(k api.Key) (api.Key, func() bool) {
	n, nKept := kept(k.N)
	e, eKept := kept(k.E)
	d, dKept := kept(k.D)
	return api.Key{N: n, E: e, D: d}, func() bool { return nKept() && eKept() && dKept() }
}

// fill writes over all of a list's memory.
func fill[T uint64 | byte](l []T) {
	for i := range l[:cap(l)] {
		l[:cap(l)][i] = 0x5c
	}
}
