package desk_test

import (
	"fmt"
	"math/rand"
	"strings"
	"testing"

	"clepsydra/api"
	"clepsydra/desk"
	"clepsydra/net"
)

// anyStep is a step by chance in the world of a play, nearly always one of those that can be.
func anyStep(r *rand.Rand, p *play) net.Step {
	mail := p.world.Mail()
	host := func() int { return max(0, r.Intn(p.n+1)-r.Intn(2)) }
	s := net.Step{A: host(), B: host()}
	switch r.Intn(20) {
	case 0, 1, 2:
		s.Kind, s.N = net.Tick, r.Int63n(1<<34)
	case 3:
		s.Kind, s.N = net.Tick, []int64{0, 1 << 40, 1<<40 + 1, most}[r.Intn(4)]
	case 4:
		s.Kind = net.Call
	case 5, 6, 7, 8, 9:
		s.Kind = net.Poll
	case 10:
		s.Kind, s.A = net.Drop, r.Intn(len(mail)+1)
	case 11:
		s.Kind, s.A = net.Dup, r.Intn(len(mail)+1)
	case 12:
		s.Kind, s.From, s.To, s.Bytes = net.Inject, uint32(1+host()), uint32(1+host()), make([]byte, r.Intn(100))
		r.Read(s.Bytes)
		if len(mail) > 0 && r.Intn(2) == 0 {
			s.Bytes = mail[r.Intn(len(mail))].Bytes
		}
	case 13:
		s.Kind, s.N = net.Restart, r.Int63n(5)
		if r.Intn(4) > 0 {
			s.A = p.n
		}
	default:
		s.Kind, s.A = net.Deliver, max(0, len(mail)-1-r.Intn(3))
	}
	return s
}

// anyPlay is a play of some lines by chance.
func anyPlay(t *testing.T, r *rand.Rand, n int, bound bool, lines int) *play {
	t.Helper()
	p := begun(t, n, bound)
	for i := range n {
		p.do(net.Step{Kind: net.Call, A: i, B: (i + 1) % n})
	}
	wrong := wrong()
	for len(p.script) < lines {
		switch r.Intn(20) {
		case 0:
			p.look([]string{"peers", "mail", "choose", "judge"}[r.Intn(4)], r.Intn(n+1))
		case 1:
			line := wrong[r.Intn(len(wrong))]
			if _, e := desk.Parse(line); e == api.ErrLine && !isLook(line) && !strings.Contains(line, "\n") {
				p.tell(line, "", api.ErrLine)
			}
		default:
			p.do(anyStep(r, p))
		}
	}
	p.look("judge", 0)
	for i := range n {
		p.look("peers", i)
		p.look("choose", i)
	}
	return p
}

// isLook tells whether a line asks, and does nothing.
func isLook(line string) bool {
	word, _, _ := strings.Cut(line, " ")
	return word == "peers" || word == "mail" || word == "choose" || word == "judge"
}

// P8: a script tells what a world of the same hosts does.
func TestTellsWhatAWorldDoes(t *testing.T) {
	told := map[string]int{}
	for seed := range int64(40) {
		r := rand.New(rand.NewSource(seed))
		p := anyPlay(t, r, 1+int(seed)%4, seed%3 == 0, 100+r.Intn(900))
		p.wantTold(t)
		for i, l := range p.told {
			told[strings.Fields(p.script[i] + " .")[0]+": "+l]++
			if strings.HasPrefix(l, "ok 3 ") {
				told["the time"]++
			}
		}
	}
	for _, l := range []string{"tick: ok", "deliver: ok 1", "deliver: ok 2", "the time", "deliver: ok 4", "tick: error 1", "deliver: error 4", "poll: error 120", "choose: error 150", "call: error 170", "peers: error 180", "tick: error 200"} {
		if told[l] == 0 {
			t.Errorf("%q: never", l)
		}
	}
}

// P20.5: what the first lines of a script tell is the beginning of what all tell; and (rule 8) it is told again.
func TestFirstLinesTellTheSame(t *testing.T) {
	for seed := range int64(8) {
		r := rand.New(rand.NewSource(seed))
		n, bound := 2+r.Intn(3), r.Intn(2) == 0
		p := anyPlay(t, r, n, bound, 200)
		all, e := desk.Run(n, bound, strings.Join(p.script, "\n"))
		if e != api.OK {
			t.Fatalf("Run: %v", e)
		}
		for first := 0; first <= len(p.script); first += 1 + r.Intn(9) {
			script := ""
			for _, l := range p.script[:first] {
				script += l + "\n"
			}
			for range 2 {
				if got, e := desk.Run(n, bound, script); e != api.OK || !strings.HasPrefix(all, got) || strings.Count(got, "\n") != first {
					t.Fatalf("of %d lines: %.99q, %v", first, got, e)
				}
			}
		}
	}
}

// P1: no call panics, and each ends, at scripts of any lines.
func TestAnyScripts(t *testing.T) {
	r := rand.New(rand.NewSource(203))
	for range 60 {
		script := ""
		for range r.Intn(100) {
			line := []byte(lineOf(anyLineStep(r)))
			if r.Intn(3) == 0 {
				line = fmt.Appendf(nil, "%s %d %d", []string{"peers", "choose", "tick", "poll", "call"}[r.Intn(5)], r.Intn(5), r.Intn(5))
			}
			if r.Intn(2) == 0 {
				line[r.Intn(len(line))] = byte(r.Intn(256))
			}
			script += string(line) + "\n"
		}
		out, e := desk.Run(1+r.Intn(4), r.Intn(2) == 0, script)
		if e != api.OK || strings.Count(out, "\n") != strings.Count(script, "\n") {
			t.Fatalf("Run(%q) = %q, %v", script, out, e)
		}
	}
	// As long as a line may be, and as much as may be on its way.
	out, e := desk.Run(4, true, "inject 1 2 "+strings.Repeat("00", 1<<20)+"\n"+strings.Repeat("inject 1 2 "+strings.Repeat("ab", 8192)+"\n", 300)+"mail")
	if e != api.OK || strings.Count(out, "error 5\n") != 300-256 || !strings.HasPrefix(out, "error 2\n") || !strings.HasSuffix(out, strings.Repeat(" 1/2/8192", 256)+"\n") {
		t.Errorf("Run = %.99q, %v", out, e)
	}
}
