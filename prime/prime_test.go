package prime_test

import (
	"bytes"
	"math/big"
	"math/rand"
	"slices"
	"testing"

	"clepsydra/api"
	"clepsydra/modn"
	"clepsydra/nat"
	"clepsydra/prime"
)

// parse is the number of some digits of ten.
func parse(text string) api.Nat {
	b, ok := new(big.Int).SetString(text, 10)
	if !ok {
		panic("no number: " + text)
	}
	return nat.Read(b.Bytes())
}

func TestPasses(t *testing.T) {
	for n := range uint64(5000) {
		if got := prime.Passes(nat.Of(n)); got != new(big.Int).SetUint64(n).ProbablyPrime(0) {
			t.Errorf("Passes(%d) = %v", n, got)
		}
	}
	for _, c := range []struct {
		n    string
		want bool
	}{
		{"18446744073709551557", true}, {"18446744073709551615", false},
		{"170141183460469231731687303715884105727", true}, {"170141183460469231731687303715884105729", false},
		// No one of 2 to 31 tells of the first one, 37 does; of the second one 41 does.
		{"3825123056546413051", false}, {"318665857834031151167461", true},
		// Of these 2, 2 and 3, 2 to 5, and so on, don't tell.
		{"2047", false}, {"1373653", false}, {"25326001", false}, {"3215031751", false},
		{"2152302898747", false}, {"3474749660383", false}, {"341550071728321", false},
	} {
		if got := prime.Passes(parse(c.n)); got != c.want {
			t.Errorf("Passes(%s) = %v", c.n, got)
		}
	}
	if !prime.Passes(api.Nat{7, 0, 0}) || prime.Passes(nil) || prime.Passes(api.Nat{0, 0}) {
		t.Error("noughts at the end count")
	}
}

// Each of the twelve bases counts: of each of these composites it alone tells.
func TestEachBaseTells(t *testing.T) {
	told := map[uint64]string{
		2:  "240334552487103708165218038729850249339111920543601332684070611",
		3:  "489031342954803001960627807922337287614574747830384722806523300151",
		5:  "1136597605266099606886887939711471111964635543272386402223947",
		7:  "5854406860718832258856396857564893311371435640607149710590861383",
		11: "7311368141199505285810635888269846597578517529683315340526525543",
		13: "4722248660668604046757149382412613698375468616448402015584859769251",
		17: "45585979286491033703865938784141892966392599814990013278356073751",
		19: "145975437391664940409561186291563583856006652146069033093787871",
		23: "1570535265004894129541593208327514030895507834668806313407606251",
		29: "115802116438148786156295640280362176329985632900426954692831291",
		31: "4767932506937156624231634979741055526244966828940331045222211",
		37: "316199646020968601412120470335691640512326989968314299051871114351",
	}
	for base, text := range told {
		n := parse(text)
		for other := range told {
			if modn.Tells(n, other) != (other == base) {
				t.Errorf("%s: %d tells, or does not", text, other)
			}
		}
		if prime.Passes(n) {
			t.Errorf("%s passes, of which %d tells", text, base)
		}
	}
}

// all are the candidates of some draws, and where each one ends.
func all(draws []byte, digits, set int) ([]int, []api.Nat) {
	var ends []int
	var l []api.Nat
	for used, c := range prime.Candidates(draws, digits, set) {
		ends, l = append(ends, used), append(l, c)
	}
	return ends, l
}

func TestCandidatesExamples(t *testing.T) {
	for _, c := range []struct {
		draws       []byte
		digits, set int
		ends        []int
		want        []uint64
	}{
		{nil, 8, 1, nil, nil},
		{[]byte{0, 255, 2}, 8, 1, []int{1, 2, 3}, []uint64{129, 255, 131}},
		{[]byte{0, 255, 2}, 8, 2, []int{1, 2, 3}, []uint64{193, 255, 195}},
		{[]byte{254, 0, 1, 9, 7}, 9, 2, []int{2, 4}, []uint64{385, 393}},
		{[]byte{254, 0, 1, 9, 7}, 9, 1, []int{2, 4}, []uint64{257, 265}},
		{[]byte{255, 255}, 15, 1, []int{2}, []uint64{1<<15 - 1}},
		{[]byte{255}, 9, 1, nil, nil},
		{[]byte{0, 0, 0}, 16, 2, []int{2}, []uint64{0xc001}},
		{[]byte{255, 0, 0}, 17, 2, []int{3}, []uint64{0x18001}},
	} {
		ends, l := all(c.draws, c.digits, c.set)
		if !slices.Equal(ends, c.ends) || len(l) != len(c.want) {
			t.Fatalf("%v in %d digits: %v, %v", c.draws, c.digits, ends, l)
		}
		for i, n := range l {
			if nat.Cmp(n, nat.Of(c.want[i])) != 0 {
				t.Errorf("%v in %d digits: %v, want %d", c.draws, c.digits, n, c.want[i])
			}
		}
	}
}

func TestCandidates(t *testing.T) {
	draws := make([]byte, 300)
	rand.New(rand.NewSource(51)).Read(draws)
	kept := bytes.Clone(draws)
	for digits := 2; digits <= 520; digits++ {
		for set := 1; set <= 2; set++ {
			size := (digits + 7) / 8
			ends, l := all(draws, digits, set)
			if len(l) != len(draws)/size {
				t.Fatalf("%d candidates of %d digits", len(l), digits)
			}
			for i, got := range l {
				want := new(big.Int).SetBytes(draws[i*size : (i+1)*size])
				want.Mod(want, new(big.Int).Lsh(big.NewInt(1), uint(digits)))
				want.SetBit(want.SetBit(want, 0, 1), digits-1, 1)
				want.SetBit(want, digits-set, 1)
				if nat.Cmp(got, nat.Read(want.Bytes())) != 0 || ends[i] != (i+1)*size {
					t.Fatalf("candidate %d of %d digits = %x up to %d, want %x", i, digits, got, ends[i], want)
				}
			}
		}
	}
	if !bytes.Equal(draws, kept) {
		t.Error("the draws were changed")
	}
}

func TestCandidatesAreLeft(t *testing.T) {
	seen := 0
	for range prime.Candidates(make([]byte, 10), 8, 1) {
		seen++
		if seen == 3 {
			break
		}
	}
	if seen != 3 {
		t.Errorf("%d seen", seen)
	}
}
