package stamp_test

import (
	"fmt"
	"math"
	"math/big"
	"math/rand"
	"regexp"
	"strings"
	"testing"

	"clepsydra/api"
	"clepsydra/stamp"
)

// P4.4: Print, Parse.

// printed is what Print is to answer.
func printed(t uint64) string {
	parts := new(big.Int).SetUint64(t % (1 << 32))
	parts.Mul(parts, big.NewInt(1e10))
	return fmt.Sprintf("%d.%010d", t>>32, parts.Rsh(parts, 32))
}

// form is what a printed time looks like.
var form = regexp.MustCompile(`^(0|[1-9][0-9]{0,9})\.[0-9]{10}$`)

// parsed fails, if Parse does not answer just what prints the text, or does not refuse it, if nothing does.
func parsed(t *testing.T, text string) {
	t.Helper()
	got, e := stamp.Parse(text)
	if want, ok := printedFrom(text); ok {
		if e != api.OK || got != want {
			t.Fatalf("Parse(%q) = %d, %v, want %d", text, got, e, want)
		}
		return
	}
	if e != api.ErrTime || got != 0 {
		t.Fatalf("Parse(%q) = %d, %v", text, got, e)
	}
}

// printedFrom is the time that prints a text, looked for around what the text says.
func printedFrom(text string) (uint64, bool) {
	if !form.MatchString(text) {
		return 0, false
	}
	units, _ := new(big.Int).SetString(strings.Replace(text, ".", "", 1), 10)
	units.Lsh(units, 32).Quo(units, big.NewInt(1e10))
	for range 3 {
		if units.IsUint64() && printed(units.Uint64()) == text {
			return units.Uint64(), true
		}
		units.Add(units, big.NewInt(1))
	}
	return 0, false
}

// someTimes are times whose parts are edges and others.
func someTimes() []uint64 {
	l := times()
	r := rand.New(rand.NewSource(44))
	for _, part := range []uint64{0, 1, 2, 3, 429496729, 429496730, 1<<31 - 1, 1 << 31, 1<<32 - 3, 1<<32 - 2, 1<<32 - 1} {
		for _, sec := range []uint64{0, 1, 9, 10, 99, 100, 1999999999, 2000000000, 4294967294, 4294967295} {
			l = append(l, sec<<32|part)
		}
	}
	for range 300 {
		l = append(l, r.Uint64(), uint64(r.Uint32()), r.Uint64()>>r.Intn(64))
	}
	return l
}

func TestPrint(t *testing.T) {
	for _, one := range someTimes() {
		if got, want := stamp.Print(one), printed(one); got != want {
			t.Fatalf("Print(%d) = %q, want %q", one, got, want)
		}
	}
}

func TestPrintExamples(t *testing.T) {
	for _, c := range []struct {
		t    uint64
		want string
	}{
		{1<<31 + 1<<32, "1.5000000000"}, {0, "0.0000000000"}, {1, "0.0000000002"}, {2, "0.0000000004"}, {3, "0.0000000006"}, {4, "0.0000000009"},
		{1<<32 - 1, "0.9999999997"}, {1 << 32, "1.0000000000"}, {10 << 32, "10.0000000000"}, {latest, "4294967295.9999999997"},
		{1000000000 << 32, "1000000000.0000000000"}, {1 << 30, "0.2500000000"}, {half, "2147483648.0000000000"},
	} {
		if got := stamp.Print(c.t); got != c.want {
			t.Errorf("Print(%d) = %q, want %q", c.t, got, c.want)
		}
	}
}

func TestParseRefuses(t *testing.T) {
	for _, text := range []string{
		"", ".", "1", "1.", "1.5", ".5000000000", "1.500000000", "1.50000000000", "01.5000000000", "00.0000000000", "0000000001.5000000000",
		"1.0000000001", "1.0000000003", "1.9999999998", "1.9999999999", "0.9999999999", "4294967295.9999999999",
		"4294967296.0000000000", "4294967297.5000000000", "9999999999.0000000000", "10000000000.0000000000", "18446744073709551616.0000000000",
		"42949672960.0000000000", "8589934592.5000000000", "-1.5000000000", "+1.5000000000", "-0.0000000000", " 1.5000000000", "1.5000000000 ",
		"1.5000000000\n", "1,5000000000", "1..500000000", "1.500000000.", "1.5.00000000", ".1.5000000000", "1.5000000000.", "1.50000000_0",
		"1.+500000000", "1.-500000000", "1e0.5000000000", "0x1.5000000000", "a.5000000000", "1.500000000a", "1.\x005000000000", "\x001.5000000000",
		"/.5000000000", ":.5000000000", "1.500000000/", "1.500000000:", "1.4:00000000", "1:.0000000000",
		"١.5000000000", "1.٠٠٠٠٠", "1.5000000000\x00", "１.5000000000", "NaN", "Inf.0000000000",
		strings.Repeat("9", 100000), strings.Repeat("0", 1000) + ".0000000000", "0." + strings.Repeat("0", 1000),
	} {
		if got, e := stamp.Parse(text); e != api.ErrTime || got != 0 {
			t.Errorf("Parse(%.40q) = %d, %v", text, got, e)
		}
	}
}

// A text is changed at one place, to what is next to a digit, too.
func TestParseOfChangedTexts(t *testing.T) {
	for _, one := range []uint64{0, 1, 3 << 31, 7<<32 | 5, 4294967295 << 32, latest, half | 77, 1000000000<<32 | 1<<31} {
		text := stamp.Print(one)
		for at := range len(text) {
			for c := range 256 {
				parsed(t, text[:at]+string([]byte{byte(c)})+text[at+1:])
				parsed(t, text[:at]+string([]byte{byte(c)})+text[at:])
			}
			parsed(t, text[:at]+text[at+1:])
			parsed(t, text[:at])
			parsed(t, text[at:])
		}
	}
}

// Between two times that follow one another there are texts that no time prints.
func TestParseBetweenTimes(t *testing.T) {
	r := rand.New(rand.NewSource(45))
	for _, sec := range []uint64{0, 3, math.MaxUint32} {
		for digits := range int64(3000) {
			parsed(t, fmt.Sprintf("%d.%010d", sec, digits))
			parsed(t, fmt.Sprintf("%d.%010d", sec, 9999999999-digits))
			parsed(t, fmt.Sprintf("%d.%010d", sec, r.Int63n(1e10)))
		}
	}
	for range 3000 {
		parsed(t, fmt.Sprintf("%d.5000000000", 4294967296-1500+r.Int63n(3000)))
	}
}
