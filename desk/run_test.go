package desk_test

import (
	"bytes"
	"fmt"
	"slices"
	"strings"
	"testing"

	"clepsydra/api"
	"clepsydra/desk"
	"clepsydra/net"
)

// rounds is the script of host 1 that asks host 0 some times, and what it tells.
func rounds(n int) (string, []string) {
	script, told := "call 1 0\n", []string{"ok"}
	for i := range n {
		script += "poll 1 0\ndeliver 0\ndeliver 0\ntick 5\n"
		heard := "ok 2"
		if i > 3 {
			heard = "ok 3 0 0"
		}
		told = append(told, "ok", "ok 1", heard, "ok")
	}
	return script, told
}

// The ten examples of the whole.
func TestExamplesOfTheWhole(t *testing.T) {
	script, told := rounds(6)
	wantRun(t, 2, false, script, told...)
	wantRun(t, 2, false, "call 1 0\npoll 1 0\nmail\n", "ok", "ok", "ok 2/1/96")
	script, told = rounds(5)
	wantRun(t, 2, false, script+"peers 1\n", append(told, "ok 1/15/1")...)
	wantRun(t, 2, false, script+"choose 1\n", append(told, "ok 0")...)
	// A round is Sent, Answered, Sent: the answer of the fifth one stands behind four of them.
	wantRun(t, 2, false, script+"judge\n", append(told, "ok 1/14")...)
	wantRun(t, 2, false, script+"poll 1 0\npoll 1 0\n", append(told, "ok", "error 120")...)
	wantRun(t, 2, false, script+"deliver 7\n", append(told, "error 180")...)
	script, told = rounds(6)
	wantRun(t, 2, false, script+"judge\npeers 1\n", append(told, "ok 1/14 1/18", "ok 1/15/2")...)
}

// The examples of the chapter.
func TestExamples(t *testing.T) {
	wantRun(t, 2, false, "call 1 0\ncall 1 0\npoll 0 1\ntick x\n", "ok", "error 170", "error 170", "error 200")
}

// P20.3: what is told of lines of each sort.
func TestToldOfLines(t *testing.T) {
	wantRun(t, 3, true, "")
	for line, want := range map[string]string{
		"tick 0": "ok", "tick 1099511627776": "ok", "tick 1099511627777": "error 1", "tick 4611686018427387903": "error 1",
		"call 0 1": "ok", "call 0 0": "error 1", "call 0 3": "error 180", "call 3 0": "error 180", "call 4611686018427387903 4611686018427387903": "error 180",
		"poll 0 1": "error 170", "poll 3 0": "error 180", "deliver 0": "error 180", "drop 0": "error 180", "dup 0": "error 180", "deliver 4611686018427387903": "error 180",
		"inject 1 2 -": "ok", "inject 9 9 00ff": "ok", "inject 1 2 " + strings.Repeat("00", 8192): "ok", "inject 1 2 " + strings.Repeat("00", 8193): "error 2",
		"restart 0 0": "ok", "restart 2 4611686018427387903": "ok", "restart 3 0": "error 180",
		"peers 0": "ok", "peers 2": "ok", "peers 3": "error 180", "peers 4611686018427387903": "error 180", "peers 4611686018427387904": "error 200",
		"choose 0": "error 150", "choose 3": "error 180", "choose 4611686018427387903": "error 180", "choose 4611686018427387904": "error 200", "mail": "ok", "judge": "ok",
	} {
		for _, bound := range []bool{false, true} {
			wantRun(t, 3, bound, line+"\n", want)
			wantRun(t, 3, bound, line, want)
			wantRun(t, 3, bound, line+"\n"+line+"x\n", want, "error 200")
		}
	}
}

// A line that is none of these is told so, and what is around it is played.
func TestToldOfWrongLines(t *testing.T) {
	l := []string{"peers", "peers ", "peers  0", "peers 0 0", "peers -1", "peers 00", "peers x", "peers 0 ", "peers 0\r", " peers 0", "Peers 0", "peers -", "choose", "choose ", "choose 0 0", "choose 01", "choose +0", "choose 0 ", "chose 0", "mail ", " mail", "mail 0", "mail mail", "mail\r", "mails", "judge ", "judge 0", " judge", "Judge", "judge\x00", "# tick 5", "peers 3 3", "choose 99 1", "mail -", "judge -"}
	for _, line := range wrong() {
		if !strings.Contains(line, "\n") && !slices.Contains([]string{"peers 0", "mail", "choose 0", "judge"}, line) {
			l = append(l, line)
		}
	}
	script, told := "", []string(nil)
	for _, line := range l {
		script += line + "\ntick 1\n"
		told = append(told, "error 200", "ok")
	}
	wantRun(t, 2, false, script, told...)
}

// A script's last line may lack its end; a line without words is one.
func TestEnds(t *testing.T) {
	wantRun(t, 1, false, "")
	wantRun(t, 1, false, "\n", "error 200")
	wantRun(t, 1, false, "\n\n\n", "error 200", "error 200", "error 200")
	wantRun(t, 1, false, "mail", "ok")
	wantRun(t, 1, false, "mail\nmail", "ok", "ok")
	wantRun(t, 1, false, "mail\n\nmail\n", "ok", "error 200", "ok")
	wantRun(t, 1, false, "mail\r\nmail", "error 200", "ok")
	wantRun(t, 1, false, " ", "error 200")
}

// P20.3: a script of more than MaxScript lines.
func TestLongScripts(t *testing.T) {
	for _, line := range []string{"mail", "", "tick x"} {
		want := "ok"
		if line != "mail" {
			want = "error 200"
		}
		whole := strings.Repeat(line+"\n", api.MaxScript)
		wantRun(t, 1, false, whole, slices.Repeat([]string{want}, api.MaxScript)...)
		for _, more := range []string{"\n", "x", "mail", "mail\n", " ", "\n\n", whole} {
			if out, e := desk.Run(1, false, whole+more); out != "" || e != api.ErrLong {
				t.Errorf("Run of a line more, %.9q = %.20q, %v", more, out, e)
			}
			// The number of hosts is asked ahead of it.
			if out, e := desk.Run(5, false, whole+more); out != "" || e != api.ErrArg {
				t.Errorf("Run of five hosts = %.20q, %v", out, e)
			}
		}
		if line == "mail" {
			wantRun(t, 1, false, whole[:len(whole)-1], slices.Repeat([]string{want}, api.MaxScript)...)
		}
	}
}

// Several associations, packets and verdicts stand behind each other.
func TestSeveral(t *testing.T) {
	wantRun(t, 4, false, "call 3 2\ncall 3 0\ncall 3 1\npeers 3\npoll 3 0\ntick 1\npoll 3 1\npoll 3 2\ninject 4294967295 0 -\ndup 3\nmail\npeers 3\n",
		"ok", "ok", "ok", "ok 3/0/0 1/0/0 2/0/0", "ok", "ok", "ok", "ok", "ok", "ok", "ok 4/1/96 4/2/96 4/3/96 4294967295/0/0 4294967295/0/0", "ok 3/0/0 1/0/0 2/0/0")
}

// An offset below 0, and a delay, are told as numbers are.
func TestToldTime(t *testing.T) {
	script, told := "", []string(nil)
	for range 4 {
		script += "tick 1048576\npoll 0 1\ndeliver 0\ndeliver 0\n"
		told = append(told, "ok", "ok", "ok 1", "ok 2")
	}
	// Host 1's clock goes one unit more in each 2^20, and is 5 ahead. On the one way the answer is 1000 units, on the other one 24.
	wantRun(t, 2, false, "call 0 1\n"+script+"tick 1048576\npoll 0 1\ntick 1000\ndeliver 0\ntick 24\ndeliver 0\nchoose 0\n",
		slices.Concat([]string{"ok"}, told, []string{"ok", "ok", "ok", "ok 1", "ok", "ok 3 493 1024", "ok 493"})...)
	// To host 1 host 0 is behind.
	wantRun(t, 2, false, "call 1 0\n"+strings.ReplaceAll(script, "0 1", "1 0")+"tick 1048576\npoll 1 0\ndeliver 0\ndeliver 0\nchoose 1\njudge\n",
		slices.Concat([]string{"ok"}, told, []string{"ok", "ok", "ok 1", "ok 3 -5 0", "ok -5", "ok 1/14"})...)
}

// The draws of a line are those of its number, from 0 on, whatever lines stand ahead of it; a byte 0 counts as 1. What was drawn shows in the key number: an answer that is forged by it is taken.
func TestDraws(t *testing.T) {
	noughts := 0
	for _, k := range []int{1, 2, 255, 256, 257, 511, 512, 1000, 3000, withNought(1), withNought(600), withNought(2000)} {
		draws := drawsOf(k)
		id := uint32(draws[0])<<24 | uint32(draws[1])<<16 | uint32(draws[2])<<8 | uint32(draws[3])
		lines, told := []string{"call 1 0"}, []string{"ok"}
		for i := range k - 1 {
			lines = append(lines, []string{"tick 0", "tick x", "", "peers 7"}[i%4])
			told = append(told, []string{"ok", "error 200", "error 200", "error 180"}[i%4])
		}
		lines, told = append(lines, "poll 1 0"), append(told, "ok")
		for _, x := range []uint32{id ^ 1, id} {
			answer := sealed(t, api.Packet{Version: 4, Mode: api.ModeServer, Org: 1 << 40, Exts: []api.Ext{{Op: api.OpAssoc, Resp: true, Value: []byte("h0")}}}, 1, 2, x, 0)
			lines = append(lines, fmt.Sprintf("inject 1 2 %x", answer), "deliver 1")
		}
		told = append(told, "ok", "error 102", "ok", "ok 2")
		wantRun(t, 2, false, strings.Join(lines, "\n"), told...)
		if bytes.Contains(rawDrawsOf(k)[:4], []byte{0}) {
			noughts++
		}
	}
	if noughts < 3 {
		t.Errorf("a byte 0 was drawn for %d lines", noughts)
	}
}

// withNought is the first line from one on of whose first four drawn bytes one is 0.
func withNought(k int) int {
	for !bytes.Contains(rawDrawsOf(k)[:4], []byte{0}) {
		k++
	}
	return k
}

// What is drawn for a proof is what stands behind the first four bytes: an answer to that question is right.
func TestDrawsOfProofs(t *testing.T) {
	p := begun(t, 2, false)
	p.must(t, net.Step{Kind: net.Call, A: 1})
	for range 2 {
		p.round(t, 1, 0)
	}
	p.must(t, net.Step{Kind: net.Tick, N: 1})
	line := len(p.script)
	p.must(t, net.Step{Kind: net.Poll, A: 1})
	x := read(t, p.last().Bytes).Exts[0]
	if x.Op != api.OpIff || !bytes.Equal(x.Value, drawsOf(line)[4:20]) {
		t.Fatalf("the question is %+v", x)
	}
	p.must(t, net.Step{Kind: net.Inject, From: 1, To: 2, Bytes: proven(t, p.last().Bytes)})
	p.must(t, net.Step{Kind: net.Deliver, A: 1})
	p.look("peers", 1)
	if p.told[len(p.told)-1] != "ok 1/7/0" {
		t.Fatalf("the proof does not hold: %s", p.told[len(p.told)-1])
	}
	p.wantTold(t)
}
