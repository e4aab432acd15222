package host_test

import (
	"bytes"
	"encoding/binary"
	"reflect"
	"strings"
	"testing"

	"clepsydra/api"
	"clepsydra/host"
)

// P17.2: Poll.

// requestOf is the bytes of a request as the chapter says, put together byte by byte, but for the sum.
func requestOf(t *testing.T, client, server host.Config, now uint64, draws []byte, cookie uint32, op int, value []byte) []byte {
	t.Helper()
	b := append([]byte{4<<3 | 3, 0, 6, 0}, make([]byte, 36)...)
	b = binary.BigEndian.AppendUint64(b, now)
	if op != 0 {
		filling := make([]byte, (4-len(value)%4)%4)
		b = append(b, byte(op), 0, 0, byte(24+len(value)+len(filling)), 0, 0, 0, 0)
		b = append(append(b, four(uint32(now>>32))...), 0, 0, 0, 0)
		b = append(append(append(b, four(uint32(len(value)))...), value...), filling...)
		b = append(b, 0, 0, 0, 0)
	}
	return sealed(t, read(t, b), client.Addr, server.Addr, binary.BigEndian.Uint32(draws), cookie)
}

// Each request as a whole, of hosts that are Bound and that are not.
func TestPolled(t *testing.T) {
	for _, bound := range []bool{false, true} {
		client, server := config(0, bound), config(2, bound)
		text := textOf(client.Key)
		timeOp, timeValue := 0, []byte(nil)
		if bound {
			timeOp, timeValue = api.OpBound, faceOf(text)
		}
		p := begun(t, client, server)
		for i, want := range []struct {
			op    int
			value []byte
			bits  int
		}{
			{api.OpAssoc, []byte("h0"), 0}, {api.OpCert, []byte("h2"), 1}, {api.OpCert, []byte("h1"), 1}, {api.OpIff, drawn(3, 20)[4:], 3}, {api.OpCookie, text, 7}, {timeOp, timeValue, 15}, {timeOp, timeValue, 15},
		} {
			if bits := p.client.Peers()[0].Bits; bits != want.bits {
				t.Fatalf("request %d: bits %d", i, bits)
			}
			p.now += second
			cookie := uint32(0)
			if want.bits == 15 {
				cookie = cookieOf(server, client)
			}
			draws := drawn(int64(i), 20+i)
			got := polled(t, p.client, server.Addr, p.now, draws)
			if full := requestOf(t, client, server, p.now, draws, cookie, want.op, want.value); !bytes.Equal(got, full) {
				t.Errorf("request %d: %x, want %x", i, got, full)
			}
			p.hear(t, p.reply(t, got))
		}
	}
}

// The cookie by which the time is asked for is the one that came, whatever the server's is now.
func TestPolledByCookie(t *testing.T) {
	p := plain(t, false).upTo(t, 7)
	request := p.ask(t)
	field := signedField(t, keyAt(0), api.OpCookie, uint32(p.now>>32), encrypted(t, keyAt(1), []byte{0xfe, 1, 2, 0xfd}))
	answer := p.answerTo(t, request)
	answer.Exts = []api.Ext{field}
	if heard := p.hear(t, p.sealAnswer(t, request, answer, 0)); heard.What != host.Advanced {
		t.Fatalf("a cookie: %+v", heard)
	}
	p.now += second
	draws := drawn(3, 4)
	if got, want := polled(t, p.client, addr(0), p.now, draws), requestOf(t, p.clientIs, p.serverIs, p.now, draws, 0xfe0102fd, 0, nil); !bytes.Equal(got, want) {
		t.Errorf("Poll = %x, want %x", got, want)
	}
}

func TestPollRefused(t *testing.T) {
	for _, c := range []struct {
		bits   int
		server uint32
		after  int64 // how much later than the last request
		draws  int
		want   api.Errno
	}{
		{1, addr(0), 1, 4, api.OK}, {1, addr(0), 1, 3, api.ErrDraws}, {1, addr(0), 1, 0, api.ErrDraws}, {1, addr(0), 0, 4, api.ErrOld}, {1, addr(0), -1, 4, api.ErrOld}, {1, addr(0), -1 << 40, 64, api.ErrOld}, {1, addr(0), 1 << 40, 64, api.OK},
		{3, addr(0), 1, 20, api.OK}, {3, addr(0), 1, 19, api.ErrDraws}, {3, addr(0), 1, 4, api.ErrDraws}, {3, addr(0), 1, 0, api.ErrDraws}, {7, addr(0), 1, 4, api.OK}, {7, addr(0), 1, 3, api.ErrDraws}, {15, addr(0), 1, 4, api.OK}, {15, addr(0), 1, 3, api.ErrDraws}, {15, addr(0), 0, 4, api.ErrOld},
		{1, addr(1), 1, 4, api.ErrPeer}, {1, addr(2), 1, 4, api.ErrPeer}, {1, 0, 1, 64, api.ErrPeer}, {15, addr(2), 1, 64, api.ErrPeer},
		// Of several errors the first one.
		{1, addr(2), 0, 0, api.ErrPeer}, {1, addr(2), 1, 0, api.ErrPeer}, {1, addr(2), 0, 4, api.ErrPeer}, {1, addr(0), 0, 0, api.ErrOld}, {3, addr(0), 0, 19, api.ErrOld},
		// A time is later, if it is moved on by less than half of all times.
		{1, addr(0), 1<<63 - 1, 4, api.OK}, {1, addr(0), -1 << 63, 4, api.OK}, {1, addr(0), -1<<63 + 1, 4, api.ErrOld},
	} {
		p := plain(t, false).upTo(t, c.bits)
		request := p.ask(t)
		before := stateOf(p.client)
		b, e := p.client.Poll(c.server, p.now+uint64(c.after), drawn(5, c.draws))
		if e != c.want || (len(b) > 0) != (c.want == api.OK) {
			t.Errorf("Poll %+v = %x, %v", c, b, e)
		}
		if c.want == api.OK {
			// Just the last one's answer is waited for.
			wantRefused(t, p.client, addr(0), p.reply(t, request), p.now, nil, api.ErrOld)
			continue
		}
		wantSame(t, p.client, before)
		if heard := p.hear(t, p.reply(t, request)); heard.What == 0 {
			t.Errorf("behind %+v: %+v", c, heard)
		}
		if _, e := p.client.Poll(addr(0), p.now+1, drawn(5, 20)); e != api.OK {
			t.Errorf("behind %+v: %v", c, e)
		}
	}
}

// A first request may be of any time, also of 0, and without an answer the same thing is asked for again.
func TestFirstPoll(t *testing.T) {
	for _, now := range []uint64{0, 1, begin, 1 << 63, 1<<64 - 1} {
		h := made(t, config(1, false))
		if e := h.Call(addr(0), "h0", begin); e != api.OK {
			t.Fatalf("Call: %v", e)
		}
		for i := range uint64(3) {
			draws := drawn(int64(i), 4)
			x := api.Ext{Op: api.OpAssoc, TS: uint32((now + i) >> 32), Value: []byte("h1")}
			want := sealed(t, api.Packet{Version: 4, Mode: 3, Poll: 6, Xmt: now + i, Exts: []api.Ext{x}}, addr(1), addr(0), binary.BigEndian.Uint32(draws), 0)
			if got := polled(t, h, addr(0), now+i, draws); !bytes.Equal(got, want) {
				t.Errorf("Poll at %x = %x, want %x", now+i, got, want)
			}
			if _, e := h.Poll(addr(0), now+i, draws); e != api.ErrOld {
				t.Errorf("Poll at %x again: %v", now+i, e)
			}
		}
	}
}

// A host with a long name, a long key and all kinds of limbs asks as others do.
func TestLongestRequests(t *testing.T) {
	client, server := config(1, true), config(0, true)
	client.Name, client.Key = strings.Repeat("n", 32), key(512, 9)
	client.Key.N = append(client.Key.N, 0, 0)
	p := begun(t, client, server).upTo(t, 7)
	request := p.ask(t)
	if got := read(t, request).Exts; len(got) != 1 || !bytes.Equal(got[0].Value, textOf(client.Key)) || got[0].Op != api.OpCookie {
		t.Errorf("the request of a cookie: %+v", got)
	}
	p.hear(t, p.reply(t, request))
	if heard := p.round(t); heard.What != host.Told {
		t.Errorf("the time: %+v", heard)
	}
}

// Associations are asked for by themselves.
func TestTwoServers(t *testing.T) {
	p := begun(t, config(1, false), config(0, false))
	second := made(t, config(2, false))
	if e := p.client.Call(addr(2), "h2", p.now); e != api.OK {
		t.Fatalf("Call: %v", e)
	}
	first := p.ask(t)
	other := polled(t, p.client, addr(2), p.now, drawn(8, 4))
	if got := p.client.Peers(); !got[0].Waits || !got[1].Waits {
		t.Errorf("Peers = %+v", got)
	}
	answer := received(t, second, addr(1), other, p.now, nil).Out
	wantRefused(t, p.client, addr(0), answer, p.now, nil, api.ErrMac)
	received(t, p.client, addr(2), answer, p.now, nil)
	want := []host.Peer{{Addr: addr(0), Name: "h0", Want: "h0", Waits: true}, {Addr: addr(2), Name: "h2", Want: "h2", Bits: 1}}
	if got := p.client.Peers(); !reflect.DeepEqual(got, want) {
		t.Errorf("Peers = %+v, want %+v", got, want)
	}
	p.hear(t, p.reply(t, first))
	if got := p.client.Peers(); got[0].Bits != 1 || got[0].Waits {
		t.Errorf("Peers = %+v", got)
	}
}
