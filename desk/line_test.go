package desk_test

import (
	"bytes"
	"fmt"
	"math/rand"
	"strings"
	"testing"

	"clepsydra/api"
	"clepsydra/desk"
	"clepsydra/net"
)

// most is the greatest number that a line has.
const most = 1<<62 - 1

// right are steps, and their lines.
func right() map[string]net.Step {
	return map[string]net.Step{
		"tick 0": {Kind: net.Tick}, "tick 5": {Kind: net.Tick, N: 5}, "tick 4611686018427387903": {Kind: net.Tick, N: most}, "tick 1099511627777": {Kind: net.Tick, N: 1<<40 + 1}, "tick 1234567890": {Kind: net.Tick, N: 1234567890},
		"call 1 0": {Kind: net.Call, A: 1}, "call 0 10": {Kind: net.Call, B: 10}, "call 4611686018427387903 4611686018427387903": {Kind: net.Call, A: most, B: most},
		"poll 1 0": {Kind: net.Poll, A: 1}, "poll 0 0": {Kind: net.Poll}, "poll 2 3": {Kind: net.Poll, A: 2, B: 3},
		"deliver 0": {Kind: net.Deliver}, "deliver 255": {Kind: net.Deliver, A: 255}, "deliver 4611686018427387903": {Kind: net.Deliver, A: most},
		"drop 0": {Kind: net.Drop}, "drop 4294967296": {Kind: net.Drop, A: 1 << 32}, "dup 0": {Kind: net.Dup}, "dup 90": {Kind: net.Dup, A: 90},
		"inject 0 0 -": {Kind: net.Inject}, "inject 1 2 00": {Kind: net.Inject, From: 1, To: 2, Bytes: []byte{0}}, "inject 4294967295 4294967295 ff": {Kind: net.Inject, From: 1<<32 - 1, To: 1<<32 - 1, Bytes: []byte{255}}, "inject 10 20 0123456789abcdef": {Kind: net.Inject, From: 10, To: 20, Bytes: []byte{1, 0x23, 0x45, 0x67, 0x89, 0xab, 0xcd, 0xef}},
		"inject 3 4 " + strings.Repeat("1f", 8193): {Kind: net.Inject, From: 3, To: 4, Bytes: bytes.Repeat([]byte{0x1f}, 8193)},
		"restart 0 0": {Kind: net.Restart}, "restart 3 4611686018427387903": {Kind: net.Restart, A: 3, N: most}, "restart 4611686018427387903 1": {Kind: net.Restart, A: most, N: 1},
	}
}

// P20.2: Parse and Line of what may be.
func TestLines(t *testing.T) {
	for line, s := range right() {
		if got, e := desk.Parse(line); e != api.OK || !isStep(got, s) {
			t.Errorf("Parse(%.80q) = %+v, %v", line, got, e)
		}
		if got, e := desk.Line(s); e != api.OK || got != line {
			t.Errorf("Line(%+v) = %.80q, %v, want %.80q", s, got, e, line)
		}
	}
}

// wrong are lines that are no step's.
func wrong() []string {
	l := []string{
		"", " ", "  ", "\n", "tick", "tick ", " tick", "tick 5 ", " tick 5", "tick  5", "tick 5 6", "tick 5\n", "tick 5\r", "tick\t5", "tick x", "tick -1", "tick +5", "tick 05", "tick 00", "tick 5.0", "tick 1e3", "tick 0x5", "tick 1_000", "tick 4611686018427387904", "tick 9223372036854775808", "tick 18446744073709551621", "tick 99999999999999999999999999999999", "tick 5x", "tick -", "tick \u0665", "tick \x005", "tick 5\x00",
		"Tick 5", "TICK 5", "ticks 5", "tic 5", "t 5", "5", "tick5", "5 tick",
		"call", "call 1", "call 1 ", "call 1 0 0", "call 1  0", "call  1 0", "call 1 -0", "call 01 0", "call 1 00", "call a b", "call 4611686018427387904 0", "call 0 4611686018427387904", "call 1 0 ",
		"poll", "poll 1", "poll 1 0 0", "poll 0x1 0", "deliver", "deliver 0 0", "deliver -1", "deliver a", "drop", "drop 0 1", "drop 00", "dup", "dup 0 1", "dup -",
		"inject", "inject 1", "inject 1 2", "inject 1 2 ", "inject 1 2 - -", "inject 1 2 00 00", "inject 1 2 00 ", "inject 4294967296 2 00", "inject 1 4294967296 00", "inject 1 18446744073709551617 00", "inject -1 2 00", "inject 01 2 00", "inject 1 02 00", "inject - 2 00", "inject 1 2 0", "inject 1 2 000", "inject 1 2 0g", "inject 1 2 g0", "inject 1 2 AB", "inject 1 2 aB", "inject 1 2 --", "inject 1 2 -0", "inject 1 2 0-", "inject 1 2 0x00", "inject 1 2 +1", "inject 1 2 /0", "inject 1 2 :0", "inject 1 2 `0", "inject 1 2 \xff0", "inject 1 2 \u0660", "inject 1 2 0 0",
		"restart", "restart 0", "restart 0 1 2", "restart -1 0", "restart 0 -1", "restart 0 01", "restart 0 4611686018427387904",
		"peers 0", "mail", "choose 0", "judge", "peers", "ok", "-", "tick 5 tick 5", "tick 5\ntick 5", strings.Repeat(" ", 5000), strings.Repeat("tick ", 5000), "tick " + strings.Repeat("9", 5000), strings.Repeat("x", 5000),
	}
	for _, word := range []string{"tick", "call", "poll", "deliver", "drop", "dup", "inject", "restart"} {
		l = append(l, word, word+" ", word+" 1 2 3 4", word+" 1 2 3 4 5", word+" 1 2 00 4", "x"+word+" 1 2", word+"x 1 2", strings.ToUpper(word)+" 1 2", "\xef\xbb\xbf"+word+" 1")
	}
	return l
}

func TestWrongLines(t *testing.T) {
	for _, line := range wrong() {
		if s, e := desk.Parse(line); e != api.ErrLine || !isStep(s, net.Step{}) {
			t.Errorf("Parse(%.80q) = %+v, %v", line, s, e)
		}
	}
}

// P20.2: steps that can't be a line's; fields that play no part are passed by.
func TestLineOfSteps(t *testing.T) {
	for _, kind := range []int{0, -1, 9, 10, 1<<63 - 1, -1 << 63} {
		if line, e := desk.Line(net.Step{Kind: kind, A: 1, B: 1, N: 1, Bytes: []byte{1}}); line != "" || e != api.ErrArg {
			t.Errorf("Line of the kind %d = %q, %v", kind, line, e)
		}
	}
	// What plays a part in which kind.
	parts := map[int]string{net.Tick: "N", net.Call: "AB", net.Poll: "AB", net.Deliver: "A", net.Drop: "A", net.Dup: "A", net.Inject: "", net.Restart: "AN"}
	for kind, named := range parts {
		for _, n := range []int64{-1, 1 << 62, -1 << 63, 1<<63 - 1} {
			for part, s := range map[string]net.Step{"A": {Kind: kind, A: int(n), B: 1, N: 1}, "B": {Kind: kind, A: 1, B: int(n), N: 1}, "N": {Kind: kind, A: 1, B: 1, N: n}} {
				line, e := desk.Line(s)
				if strings.Contains(named, part) {
					if line != "" || e != api.ErrArg {
						t.Errorf("Line(%+v) = %q, %v", s, line, e)
					}
				} else if e != api.OK || line != lineOf(s) {
					t.Errorf("Line(%+v) = %q, %v, want %q", s, line, e, lineOf(s))
				}
			}
		}
		s := net.Step{Kind: kind, A: 1, B: 2, N: 3, From: 4, To: 5, Bytes: []byte{6, 0xab}, Draws: []byte{7}}
		if line, e := desk.Line(s); e != api.OK || line != lineOf(s) {
			t.Errorf("Line(%+v) = %q, %v", s, line, e)
		}
	}
}

// anyNumber is a number by chance, often one of the edges.
func anyNumber(r *rand.Rand) int64 {
	if r.Intn(3) == 0 {
		return []int64{0, 1, 9, 10, 1<<32 - 1, 1 << 32, 1 << 40, most - 1, most}[r.Intn(9)]
	}
	return r.Int63n(1 << (1 + r.Intn(62)))
}

// anyLineStep is a step by chance that has a line, with just the fields that play a part.
func anyLineStep(r *rand.Rand) net.Step {
	s := net.Step{Kind: 1 + r.Intn(8)}
	a, b, n := int(anyNumber(r)), int(anyNumber(r)), anyNumber(r)
	switch s.Kind {
	case net.Tick:
		s.N = n
	case net.Call, net.Poll:
		s.A, s.B = a, b
	case net.Restart:
		s.A, s.N = a, n
	case net.Inject:
		s.From, s.To, s.Bytes = r.Uint32()>>r.Intn(32), r.Uint32()>>r.Intn(32), make([]byte, r.Intn(40))
		r.Read(s.Bytes)
	default:
		s.A = a
	}
	return s
}

// P20.4: the line of a step is parsed as it, and a line that is parsed is the step's line.
func TestThereAndBack(t *testing.T) {
	r := rand.New(rand.NewSource(204))
	for range 5000 {
		s := anyLineStep(r)
		line, e := desk.Line(s)
		if e != api.OK || line != lineOf(s) {
			t.Fatalf("Line(%+v) = %q, %v", s, line, e)
		}
		if got, e := desk.Parse(line); e != api.OK || !isStep(got, s) {
			t.Fatalf("Parse(%q) = %+v, %v, want %+v", line, got, e, s)
		}
	}
	// Lines that are nearly right: what is parsed of them is written so.
	parsed := 0
	for range 30000 {
		line := []byte(lineOf(anyLineStep(r)))
		for range 1 + r.Intn(2) {
			at := r.Intn(len(line))
			switch r.Intn(3) {
			case 0:
				line[at] = " 0123456789abfgx-\n"[r.Intn(18)]
			case 1:
				line = append(line[:at], line[min(at+1, len(line)-1):]...)
			case 2:
				line = append(line[:at+1], line[at:]...)
			}
		}
		s, e := desk.Parse(string(line))
		if e != api.OK {
			if e != api.ErrLine || !isStep(s, net.Step{}) {
				t.Fatalf("Parse(%q) = %+v, %v", line, s, e)
			}
			continue
		}
		parsed++
		if got, e := desk.Line(s); e != api.OK || got != string(line) {
			t.Fatalf("Line(Parse(%q)) = %q, %v", line, got, e)
		}
	}
	if parsed < 1000 {
		t.Errorf("just %d lines were parsed", parsed)
	}
}

// Rules 4 and 5: what is handed in is not changed, what lies behind it plays no part; what is handed out is new memory.
func TestMemoryOfLines(t *testing.T) {
	whole := []byte{1, 2, 3, 4, 5}
	s := net.Step{Kind: net.Inject, Bytes: whole[:2], Draws: whole[2:3]}
	for range 2 {
		if line, e := desk.Line(s); line != "inject 0 0 0102" || e != api.OK || !bytes.Equal(whole, []byte{1, 2, 3, 4, 5}) {
			t.Fatalf("Line = %q, %v", line, e)
		}
		got, _ := desk.Parse("inject 0 0 0102")
		fill(got.Bytes)
	}
	if got, _ := desk.Parse("inject 0 0 0102"); !bytes.Equal(got.Bytes, []byte{1, 2}) {
		t.Errorf("Parse = %v", got)
	}
	if line, e := desk.Line(net.Step{Kind: net.Inject, Bytes: whole[:0]}); line != "inject 0 0 -" || e != api.OK {
		t.Errorf("Line = %q, %v", line, e)
	}
}

// P1: no call panics, and each ends, at all lines.
func TestAnyLines(t *testing.T) {
	r := rand.New(rand.NewSource(201))
	for range 5000 {
		b := make([]byte, r.Intn(40))
		r.Read(b)
		if s, e := desk.Parse(string(b)); e != api.ErrLine || !isStep(s, net.Step{}) {
			t.Fatalf("Parse(%q) = %+v, %v", b, s, e)
		}
		desk.Run(1, false, string(b))
	}
	for _, line := range []string{strings.Repeat(" ", 1<<22), "inject 1 2 " + strings.Repeat("g", 1<<22), "tick " + strings.Repeat("1", 1<<22)} {
		if _, e := desk.Parse(line); e != api.ErrLine {
			t.Errorf("Parse(%.20q): %v", line, e)
		}
	}
	if s, e := desk.Parse(fmt.Sprint("inject 1 2 ", strings.Repeat("a5", 1<<21))); e != api.OK || len(s.Bytes) != 1<<21 {
		t.Errorf("Parse: %d bytes, %v", len(s.Bytes), e)
	}
}
