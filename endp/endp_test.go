package endp_test

import (
	"bytes"
	"fmt"
	"math"
	"slices"
	"strings"
	"sync"
	"testing"

	"culvert/api"
	"culvert/endp"
	"culvert/opts"
	"culvert/tcp"
)

// chance makes numbers that look like chance, always the same ones.
type chance uint64

func (c *chance) next() uint64 {
	*c = *c*6364136223846793005 + 1442695040888963407
	return uint64(*c) >> 32
}

// below makes a number below n.
func (c *chance) below(n int) int {
	return int(c.next() % uint64(n))
}

// stream makes a stream of so many bytes.
func stream(c chance, long int) []byte {
	out := make([]byte, long)
	for i := range out {
		out[i] = byte(c.next())
	}
	return out
}

// The ports of all ends of these tests.
const local, remote = 443, 4000

// setup is one that may be.
func setup() endp.Setup {
	return endp.Setup{Local: local, Remote: remote, Iss: 1000, Mss: 1000, Scale: 2, Sack: true, Room: 64, Rto: 10, Tries: 2}
}

// facts are those of a client's leg.
func facts() endp.Facts {
	return endp.Facts{Irs: 500, Mss: 900, Scale: 3, Sack: true, Window: 77}
}

// from makes a segment of the peer's.
func from(flags byte, seq, ack uint32, win uint16, data string) api.Segment {
	return api.Segment{SPort: remote, DPort: local, Flags: flags, Seq: seq, Ack: ack, Win: win, Data: []byte(data)}
}

// own makes a segment of an end's.
func own(flags byte, seq, ack uint32, win uint16, data string) api.Segment {
	return api.Segment{SPort: local, DPort: remote, Flags: flags, Seq: seq, Ack: ack, Win: win, Data: []byte(data)}
}

// acks makes an end's ACK.
func acks(seq, ack uint32, win uint16) api.Segment {
	return own(api.Ack, seq, ack, win, "")
}

// carries makes a segment by which an end sends data to a server.
func carries(seq, ack uint32, data string) api.Segment {
	return own(api.Ack|api.Psh, seq, ack, 0, data)
}

// text tells segments as a text.
func text(l []api.Segment) string {
	out := ""
	for _, s := range l {
		out += fmt.Sprintf("[%d>%d flags %x seq %d ack %d win %d urg %d opts %v %.40q]",
			s.SPort, s.DPort, s.Flags, s.Seq, s.Ack, s.Win, s.Urg, s.Opts, s.Data)
	}
	return out
}

// tells holds what a call told against what is wanted.
func tells(t *testing.T, call string, got []api.Segment, e, wantE api.Errno, want []api.Segment) {
	t.Helper()
	if e != wantE || !slices.EqualFunc(got, want, tcp.Same) {
		t.Errorf("%s = %s, %d; want %s, %d", call, text(got), e, text(want), wantE)
	}
}

// takes holds what Take tells against what is wanted.
func takes(t *testing.T, x *endp.End, s api.Segment, now uint64, want ...api.Segment) {
	t.Helper()
	got, e := x.Take(s, now)
	tells(t, fmt.Sprintf("Take(%s, %d)", text([]api.Segment{s}), now), got, e, api.OK, want)
}

// ticks holds what Tick tells against what is wanted.
func ticks(t *testing.T, x *endp.End, now uint64, want ...api.Segment) {
	t.Helper()
	got, e := x.Tick(now)
	tells(t, fmt.Sprintf("Tick(%d)", now), got, e, api.OK, want)
}

// writes holds what Write tells against what is wanted.
func writes(t *testing.T, x *endp.End, data string, now uint64, want ...api.Segment) {
	t.Helper()
	got, e := x.Write([]byte(data), now)
	tells(t, fmt.Sprintf("Write(%.40q, %d)", data, now), got, e, api.OK, want)
}

// writesNone holds what Write tells against an error.
func writesNone(t *testing.T, x *endp.End, data string, now uint64, want api.Errno) {
	t.Helper()
	got, e := x.Write([]byte(data), now)
	tells(t, fmt.Sprintf("Write(%.40q, %d)", data, now), got, e, want, nil)
}

// stands holds where x stands, and its alarm (0: none), against what is wanted.
func stands(t *testing.T, x *endp.End, state int, alarm uint64) {
	t.Helper()
	at, set := x.Alarm()
	if x.State() != state || at != alarm || set != (alarm != 0) {
		t.Errorf("State, Alarm are %d, %d, %t; want %d, %d", x.State(), at, set, state, alarm)
	}
}

// has holds what x took, and whether the client has ended, against what is
// wanted.
func has(t *testing.T, x *endp.End, data string, ended bool) {
	t.Helper()
	if got := x.Bytes(); string(got) != data || x.Ended() != ended {
		t.Errorf("Bytes, Ended are %.80q, %t; want %.80q, %t", got, x.Ended(), data, ended)
	}
}

// knows holds x's facts against what is wanted.
func knows(t *testing.T, x *endp.End, want endp.Facts) {
	t.Helper()
	if got := x.Facts(); got != want {
		t.Errorf("Facts() = %+v, want %+v", got, want)
	}
}

// ends holds x's ACK and RST against what is wanted.
func ends(t *testing.T, x *endp.End, seq, ack uint32, win uint16) {
	t.Helper()
	if got, want := x.Ack(), acks(seq, ack, win); !tcp.Same(got, want) {
		t.Errorf("Ack() = %s, want %s", text([]api.Segment{got}), text([]api.Segment{want}))
	}
	if got, want := x.Rst(), own(api.Rst|api.Ack, seq, ack, 0, ""); !tcp.Same(got, want) {
		t.Errorf("Rst() = %s, want %s", text([]api.Segment{got}), text([]api.Segment{want}))
	}
}

// endsNone asks that x has neither an ACK nor an RST.
func endsNone(t *testing.T, x *endp.End) {
	t.Helper()
	if a, r := x.Ack(), x.Rst(); !tcp.Same(a, api.Segment{}) || !tcp.Same(r, api.Segment{}) {
		t.Errorf("Ack, Rst are %s; want nothing", text([]api.Segment{a, r}))
	}
}

// accepted makes an end towards a client.
func accepted(t *testing.T, s endp.Setup, f endp.Facts) *endp.End {
	t.Helper()
	x, e := endp.Accept(s, f)
	if e != api.OK || x == nil {
		t.Fatalf("Accept(%+v, %+v) = %v, %d", s, f, x, e)
	}
	return x
}

// synOf makes the SYN that a setup asks for.
func synOf(s endp.Setup) api.Segment {
	syn := api.Segment{SPort: s.Local, DPort: s.Remote, Seq: s.Iss, Flags: api.Syn}
	syn.Opts = append(syn.Opts, api.Opt{Kind: 2, Data: []byte{byte(s.Mss >> 8), byte(s.Mss)}})
	if s.Scale != -1 {
		syn.Opts = append(syn.Opts, api.Opt{Kind: 3, Data: []byte{byte(s.Scale)}})
	}
	if s.Sack {
		syn.Opts = append(syn.Opts, api.Opt{Kind: 4})
	}
	return syn
}

// connected makes an end towards a server.
func connected(t *testing.T, s endp.Setup, now uint64) *endp.End {
	t.Helper()
	x, told, e := endp.Connect(s, now)
	tells(t, fmt.Sprintf("Connect(%+v, %d)", s, now), told, e, api.OK, []api.Segment{synOf(s)})
	if x == nil {
		t.Fatal("there is no end")
	}
	return x
}

// opened makes an end of setup's towards a server whose SYN stands at 7, Open
// since 100, whose segments have at most 100 bytes, with a window of 50.
func opened(t *testing.T) *endp.End {
	t.Helper()
	x := connected(t, setup(), 90)
	s := from(api.Syn|api.Ack, 7, 1001, 50, "")
	s.Opts = []api.Opt{opts.WithMss(100), opts.WithScale(1), opts.PermitSack()}
	takes(t, x, s, 100, acks(1001, 8, 0))
	stands(t, x, endp.Open, 0)
	return x
}

// allFlags are the flags in all ways, with the two bits that have no name.
func allFlags() []byte {
	var out []byte
	for n := range 256 {
		out = append(out, byte(n))
	}
	return out
}

func TestExamples(t *testing.T) {
	x := connected(t, endp.Setup{Local: local, Remote: remote, Iss: 9, Mss: 1460, Scale: 7, Sack: true, Rto: 5, Tries: 1}, 0)
	s := from(api.Syn|api.Ack, 99, 10, 50, "")
	s.Opts = []api.Opt{opts.WithMss(100)}
	takes(t, x, s, 1, acks(10, 100, 0))
	knows(t, x, endp.Facts{Iss: 9, Irs: 99, Mss: 100, Scale: -1, Window: 50})
	sixty := strings.Repeat("0123456789", 6)
	writes(t, x, sixty, 2, carries(10, 100, sixty[:50]))
	takes(t, x, from(api.Ack, 100, 60, 50, ""), 3, carries(60, 100, sixty[50:]))

	x = accepted(t, endp.Setup{Local: local, Remote: remote, Iss: 5, Mss: 1460, Scale: -1, Room: 100, Rto: 5, Tries: 1},
		endp.Facts{Irs: 20, Mss: 1460, Scale: -1})
	takes(t, x, from(api.Ack, 21, 6, 9, "ab"), 1, acks(6, 23, 98))
}

func TestAccept(t *testing.T) { // P20.1
	for offered := -1; offered <= api.MaxScale; offered++ {
		for scale := -1; scale <= api.MaxScale; scale++ {
			for sacks := range 4 {
				s, f := setup(), facts()
				s.Room = api.MaxSniff
				s.Scale, s.Sack = offered, sacks&1 != 0
				f.Scale, f.Sack = scale, sacks&2 != 0
				x := accepted(t, s, f)
				f.Iss, f.Sack = 1000, sacks == 3
				win := uint16(api.MaxSniff)
				if offered == -1 {
					f.Scale = -1
				} else if scale != -1 {
					win >>= offered
				}
				knows(t, x, f)
				stands(t, x, endp.Open, 0)
				ends(t, x, 1001, 501, win)
				has(t, x, "", false)
				if x.Done() {
					t.Error("it is Done")
				}
			}
		}
	}
}

// The facts' numbers may be any.
func TestAcceptFacts(t *testing.T) { // P20.1
	for _, n := range []uint32{0, 1, 1<<31 - 1, 1 << 31, 1<<32 - 2, 1<<32 - 1} {
		for _, mss := range []uint16{0, 1, 87, 1461, 65535} {
			s, f := setup(), facts()
			s.Iss = ^n
			f.Iss, f.Irs, f.Mss, f.Window = 12345, n, mss, n
			x := accepted(t, s, f)
			f.Iss = ^n
			knows(t, x, f)
			ends(t, x, ^n+1, n+1, 16)
		}
	}
}

// wrongSetups are setups that may not be.
func wrongSetups() map[string]endp.Setup {
	out := map[string]endp.Setup{"of noughts": {}}
	odd := func(name string, change func(s *endp.Setup)) {
		s := setup()
		change(&s)
		out[name] = s
	}
	for _, n := range []uint16{0, 1, 87, 1461, 65535} {
		odd(fmt.Sprint("Mss ", n), func(s *endp.Setup) { s.Mss = n })
	}
	for _, n := range []int{-2, 15, 256, 1 << 32, math.MaxInt, math.MinInt} {
		odd(fmt.Sprint("Scale ", n), func(s *endp.Setup) { s.Scale = n })
	}
	for _, n := range []int{-1, api.MaxSniff + 1, 1 << 32, math.MaxInt, math.MinInt} {
		odd(fmt.Sprint("Room ", n), func(s *endp.Setup) { s.Room = n })
	}
	for _, n := range []uint64{0, 1<<30 + 1, 1 << 32, 1<<32 + 1, math.MaxUint64} {
		odd(fmt.Sprint("Rto ", n), func(s *endp.Setup) { s.Rto = n })
	}
	for _, n := range []int{0, -1, 11, 1<<32 + 1, math.MaxInt, math.MinInt} {
		odd(fmt.Sprint("Tries ", n), func(s *endp.Setup) { s.Tries = n })
	}
	return out
}

func TestSetupWrong(t *testing.T) { // P20.1: ErrArg
	for name, s := range wrongSetups() {
		if x, e := endp.Accept(s, facts()); x != nil || e != api.ErrArg {
			t.Errorf("%s: Accept tells %v, %d", name, x, e)
		}
		if x, told, e := endp.Connect(s, 5); x != nil || len(told) != 0 || e != api.ErrArg {
			t.Errorf("%s: Connect tells %v, %s, %d", name, x, text(told), e)
		}
	}
	for _, n := range []int{-2, 15, 256, 1 << 32, math.MaxInt, math.MinInt} {
		for _, offered := range []int{-1, 0, 14} {
			s, f := setup(), facts()
			s.Scale, f.Scale = offered, n
			if x, e := endp.Accept(s, f); x != nil || e != api.ErrArg {
				t.Errorf("Accept with facts of Scale %d tells %v, %d", n, x, e)
			}
		}
	}
}

// Each least and each greatest thing of a setup, towards both sides.
func TestSetupEdges(t *testing.T) { // P20.1
	for _, mss := range []uint16{88, 89, 536, 1459, 1460} {
		for _, scale := range []int{-1, 0, 14} {
			for _, room := range []int{0, 1, api.MaxSniff} {
				for _, rto := range []uint64{1, 1 << 30} {
					for _, tries := range []int{1, 10} {
						s := setup()
						s.Mss, s.Scale, s.Room, s.Rto, s.Tries = mss, scale, room, rto, tries
						stands(t, accepted(t, s, facts()), endp.Open, 0)
						stands(t, connected(t, s, 7), endp.Opening, 7+rto)
					}
				}
			}
		}
	}
}

func TestConnect(t *testing.T) { // P20.1
	for scale := -1; scale <= api.MaxScale; scale++ {
		for _, sack := range []bool{false, true} {
			for _, iss := range []uint32{0, 1000, 1<<32 - 1} {
				s := setup()
				s.Iss, s.Scale, s.Sack = iss, scale, sack
				x := connected(t, s, 50) // which holds the SYN
				stands(t, x, endp.Opening, 60)
				knows(t, x, endp.Facts{Iss: iss, Scale: -1})
				endsNone(t, x)
				has(t, x, "", false)
				if x.Done() {
					t.Error("it is Done")
				}
			}
		}
	}
}

// notMade are ends that no call made.
func notMade(t *testing.T) map[string]*endp.End {
	client, server, opening := *accepted(t, setup(), facts()), *opened(t), *connected(t, setup(), 5)
	return map[string]*endp.End{
		"none": nil, "of noughts": {},
		"a struct's copy, towards a client": &client, "a struct's copy, towards a server": &server,
		"a struct's copy, at Opening": &opening,
	}
}

func TestNotMade(t *testing.T) { // P20.2, P20.3: ErrNil ahead of all; P20.4: nothing of none
	for name, x := range notMade(t) {
		t.Run(name, func(t *testing.T) {
			for _, flags := range allFlags() {
				got, e := x.Take(from(flags, 8, 1001, 5, "ab"), 5)
				tells(t, "Take", got, e, api.ErrNil, nil)
			}
			for _, now := range []uint64{0, 100, 1 << 39} {
				got, e := x.Tick(now)
				tells(t, "Tick", got, e, api.ErrNil, nil)
			}
			for _, data := range []string{"", "x", strings.Repeat("x", api.MaxSniff+1)} {
				writesNone(t, x, data, 5, api.ErrNil)
			}
			stands(t, x, 0, 0)
			knows(t, x, endp.Facts{})
			has(t, x, "", false)
			endsNone(t, x)
			if c := x.Copy(); x.Done() || c != nil {
				t.Errorf("Done, Copy are %t, %v", x.Done(), c)
			}
		})
	}
}

// A struct's copy has no part in the end that it was copied of.
func TestNotMadeApart(t *testing.T) { // R3
	x, y := accepted(t, setup(), facts()), opened(t)
	mx, my := *x, *y
	mx.Take(from(api.Ack, 501, 1001, 5, "ab"), 5)
	my.Write([]byte("ab"), 5)
	has(t, x, "", false)
	ends(t, x, 1001, 501, 16)
	writes(t, y, "xy", 101, carries(1001, 8, "xy"))
}

// Of all flags, the first of the words' lines that is so holds.
func TestClientFlags(t *testing.T) { // P20.2
	for _, flags := range allFlags() {
		for _, at := range []uint32{500, 501, 502, 564, 565} {
			for _, ack := range []uint32{1000, 1001, 1002} {
				x := accepted(t, setup(), facts())
				s := from(flags, at, ack, 10, "ab")
				in := at != 565 // of the one at 500 the last byte stands in the room
				answer, state, data, ended, window := []api.Segment{acks(1001, 501, 16)}, endp.Open, "", false, uint32(77)
				switch {
				case flags&api.Syn != 0:
				case flags&api.Rst != 0:
					if at == 501 {
						answer, state = nil, endp.Reset
					} else if at != 502 && at != 564 {
						answer = nil
					}
				case flags&api.Ack == 0:
					answer = nil
				case ack == 1001 && in:
					window = 80
					if at == 501 {
						answer, data, ended = []api.Segment{acks(1001, 503, 15)}, "ab", flags&api.Fin != 0
					} else if at == 500 {
						answer, data, ended = []api.Segment{acks(1001, 502, 15)}, "b", flags&api.Fin != 0
					}
				}
				takes(t, x, s, 3, answer...)
				stands(t, x, state, 0)
				has(t, x, data, ended)
				if f := x.Facts(); f.Window != window {
					t.Errorf("flags %x at %d, ack %d: Window is %d, want %d", flags, at, ack, f.Window, window)
				}
				if t.Failed() {
					t.Fatalf("flags %x at %d, ack %d", flags, at, ack)
				}
			}
		}
	}
}

// The SYN's number and the next one, round the end of all numbers.
func TestClientNumbers(t *testing.T) { // P20.2, P20.5
	s, f := setup(), facts()
	s.Iss, f.Irs, s.Scale = 1<<32-1, 1<<32-3, -1
	x := accepted(t, s, f)
	ends(t, x, 0, 1<<32-2, 64)
	takes(t, x, from(api.Ack, 1<<32-2, 1<<32-1, 9, "ab"), 1, acks(0, 1<<32-2, 64))
	takes(t, x, from(api.Ack, 0, 0, 9, "cd"), 1, acks(0, 1<<32-2, 64))
	takes(t, x, from(api.Ack, 1<<32-2, 0, 9, "ab"), 1, acks(0, 2, 60))
	takes(t, x, from(api.Ack|api.Fin, 1<<32-1, 0, 9, "bc"), 1, acks(0, 2, 60))
	has(t, x, "abcd", false)
	takes(t, x, from(api.Ack|api.Fin, 1, 0, 9, "de"), 1, acks(0, 3, 59))
	has(t, x, "abcde", true)
}

func TestClientRst(t *testing.T) { // P20.2
	for at := uint32(440); at < 600; at++ {
		for _, more := range []byte{0, api.Ack, api.Ack | api.Fin | api.Psh} {
			x := accepted(t, setup(), facts())
			takes(t, x, from(api.Ack, 501, 1001, 9, "abcd"), 1, acks(1001, 505, 15))
			s := from(api.Rst|more, at, 0, 0, "")
			switch {
			case at == 505:
				takes(t, x, s, 2)
				stands(t, x, endp.Reset, 0)
			case at > 505 && at < 565:
				takes(t, x, s, 2, acks(1001, 505, 15))
				stands(t, x, endp.Open, 0)
			default:
				takes(t, x, s, 2)
				stands(t, x, endp.Open, 0)
			}
			has(t, x, "abcd", false)
		}
	}
}

// Without room an RST at the next number holds all the same, and no other one is
// answered.
func TestClientNoRoom(t *testing.T) { // P20.2
	s := setup()
	s.Room = 0
	x := accepted(t, s, facts())
	ends(t, x, 1001, 501, 0)
	takes(t, x, from(api.Ack, 501, 1001, 9, "a"), 1, acks(1001, 501, 0))
	takes(t, x, from(api.Ack|api.Fin, 501, 1001, 9, ""), 1, acks(1001, 501, 0))
	takes(t, x, from(api.Ack, 502, 1001, 9, ""), 1, acks(1001, 501, 0))
	knows(t, x, endp.Facts{Iss: 1000, Irs: 500, Mss: 900, Scale: 3, Sack: true, Window: 77})
	takes(t, x, from(api.Ack, 501, 1001, 9, ""), 1)
	knows(t, x, endp.Facts{Iss: 1000, Irs: 500, Mss: 900, Scale: 3, Sack: true, Window: 72})
	has(t, x, "", false)
	takes(t, x, from(api.Rst, 502, 0, 0, ""), 1)
	takes(t, x, from(api.Rst, 500, 0, 0, ""), 1)
	stands(t, x, endp.Open, 0)
	takes(t, x, from(api.Rst, 501, 0, 0, ""), 1)
	stands(t, x, endp.Reset, 0)
}

// What is not accepted, or acknowledges another number, changes nothing.
func TestClientUnfit(t *testing.T) { // P20.2
	x := accepted(t, setup(), facts())
	takes(t, x, from(api.Ack, 501, 1001, 20, "abcd"), 1, acks(1001, 505, 15))
	want := x.Facts()
	for _, c := range []struct {
		at, ack uint32
		data    string
	}{
		{505, 1000, "e"}, {505, 1002, "e"}, {505, 0, "e"}, {505, 1001 + 1<<31, "e"}, {505, 1000, ""}, // another Ack
		{504, 1001, ""}, {565, 1001, ""}, {505 + 1<<31, 1001, ""}, // no byte, not in the stretch
		{501, 1001, "abcd"}, {504, 1001, "d"}, {565, 1001, "x"}, {400, 1001, strings.Repeat("x", 105)},
		{504, 1001, strings.Repeat("x", 62)}, // it covers the stretch, and stands with both ends outside
	} {
		takes(t, x, from(api.Ack, c.at, c.ack, 99, c.data), 2, acks(1001, 505, 15))
		knows(t, x, want)
		has(t, x, "abcd", false)
	}
	// A FIN counts as a number.
	takes(t, x, from(api.Ack|api.Fin, 501, 1001, 30, "abc"), 2, acks(1001, 505, 15))
	knows(t, x, want)
	takes(t, x, from(api.Ack|api.Fin, 501, 1001, 30, "abcd"), 2, acks(1001, 505, 15))
	want.Window = 240
	knows(t, x, want)
	has(t, x, "abcd", true)
}

// All windows, scaled or not.
func TestClientWindow(t *testing.T) { // P20.2
	for scale := -1; scale <= api.MaxScale; scale++ {
		for _, win := range []uint16{0, 1, 2, 255, 32768, 65535} {
			f := facts()
			f.Scale = scale
			x := accepted(t, setup(), f)
			takes(t, x, from(api.Ack, 501, 1001, win, ""), 1)
			want := uint32(win)
			for range scale {
				want *= 2
			}
			if got := x.Facts().Window; got != want {
				t.Errorf("Win %d of scale %d is %d, want %d", win, scale, got, want)
			}
		}
	}
}

// The room's halves are cut, byte by byte.
func TestClientOwnWindow(t *testing.T) { // P20.2, P20.5
	for scale := -1; scale <= api.MaxScale; scale++ {
		for _, room := range []int{1, 2, 40, 1000, api.MaxSniff} {
			s, f := setup(), facts()
			s.Scale, s.Room = scale, room
			x := accepted(t, s, f)
			for took := 1; took <= min(room, 40); took++ {
				left := room - took
				for range scale {
					left /= 2
				}
				takes(t, x, from(api.Ack, 500+uint32(took), 1001, 9, "a"), 1, acks(1001, 501+uint32(took), uint16(left)))
			}
		}
	}
}

// Bytes out of order wait; those that are there already stay as they are; those
// beyond the room are not taken.
func TestClientBytes(t *testing.T) { // P20.2, P20.6
	x := accepted(t, setup(), facts())
	takes(t, x, from(api.Ack, 503, 1001, 9, "cd"), 1, acks(1001, 501, 16))
	takes(t, x, from(api.Ack, 507, 1001, 9, "gh"), 1, acks(1001, 501, 16))
	has(t, x, "", false)
	takes(t, x, from(api.Ack, 500, 1001, 9, "XabYZ"), 1, acks(1001, 505, 15))
	has(t, x, "abcd", false)
	takes(t, x, from(api.Ack, 505, 1001, 9, "e"), 1, acks(1001, 506, 14))
	takes(t, x, from(api.Ack, 503, 1001, 9, "----"), 1, acks(1001, 509, 14))
	has(t, x, "abcde-gh", false)
	long := strings.Repeat("0123456789", 10)
	takes(t, x, from(api.Ack, 509, 1001, 9, long), 1, acks(1001, 565, 0))
	has(t, x, "abcde-gh"+long[:56], false)
	takes(t, x, from(api.Ack, 565, 1001, 9, "6"), 1, acks(1001, 565, 0))
	has(t, x, "abcde-gh"+long[:56], false)
}

// Of more pieces that wait than may be one is dropped, but else all counts.
func TestClientHoles(t *testing.T) { // P20.2
	x := accepted(t, setup(), facts())
	for n := range api.MaxHoles {
		takes(t, x, from(api.Ack, 502+2*uint32(n), 1001, 9, "b"), 1, acks(1001, 501, 16))
	}
	takes(t, x, from(api.Ack|api.Fin, 534, 1001, 11, "-"), 1, acks(1001, 501, 16))
	if f := x.Facts(); f.Window != 88 {
		t.Errorf("Window is %d", f.Window)
	}
	for n := range api.MaxHoles {
		at := 501 + 2*uint32(n)
		left := uint16(64-2*(n+1)) / 4
		takes(t, x, from(api.Ack, at, 1001, 9, "a"), 1, acks(1001, at+2, left))
	}
	has(t, x, strings.Repeat("ab", api.MaxHoles), false)
	takes(t, x, from(api.Ack, 533, 1001, 9, "a"), 1, acks(1001, 534, 7))
	has(t, x, strings.Repeat("ab", api.MaxHoles)+"a", false)
}

// The client has ended, if all ahead of its FIN is there; the FIN itself is not
// acknowledged.
func TestClientEnded(t *testing.T) { // P20.2, P20.5
	x := accepted(t, setup(), facts())
	takes(t, x, from(api.Ack|api.Fin, 503, 1001, 9, "cd"), 1, acks(1001, 501, 16))
	has(t, x, "", false)
	takes(t, x, from(api.Ack|api.Fin, 505, 1001, 9, ""), 1, acks(1001, 501, 16))
	has(t, x, "", false)
	takes(t, x, from(api.Ack, 501, 1001, 9, "ab"), 1, acks(1001, 505, 15))
	has(t, x, "abcd", false)
	takes(t, x, from(api.Ack|api.Fin, 505, 1001, 9, ""), 1, acks(1001, 505, 15))
	has(t, x, "abcd", true)
	takes(t, x, from(api.Ack|api.Fin, 505, 1001, 9, ""), 1, acks(1001, 505, 15))
	takes(t, x, from(api.Ack, 505, 1001, 9, ""), 1)
	has(t, x, "abcd", true)
	stands(t, x, endp.Open, 0)

	// Its bytes fill the gap to a piece that is there: then the next number is
	// another one than that behind its Data.
	x = accepted(t, setup(), facts())
	takes(t, x, from(api.Ack, 502, 1001, 9, "bc"), 1, acks(1001, 501, 16))
	takes(t, x, from(api.Ack|api.Fin, 501, 1001, 9, "a"), 1, acks(1001, 504, 15))
	has(t, x, "abc", false)
}

// A FIN behind bytes for which there was no room is none.
func TestClientEndedBeyondRoom(t *testing.T) { // P20.2
	for long := 62; long <= 66; long++ {
		x := accepted(t, setup(), facts())
		data := strings.Repeat("x", long)
		left := uint16(0)
		if long == 62 || long == 63 {
			left = uint16(64-long) / 4
		}
		takes(t, x, from(api.Ack|api.Fin, 501, 1001, 9, data), 1, acks(1001, 501+uint32(min(long, 64)), left))
		has(t, x, data[:min(long, 64)], long <= 64)
	}
}

// Nothing but Data or FIN is answered.
func TestClientAnswer(t *testing.T) { // P20.2
	for _, more := range []byte{0, api.Psh, api.Urg, 64, 128} {
		x := accepted(t, setup(), facts())
		takes(t, x, from(api.Ack|more, 501, 1001, 9, ""), 1)
		takes(t, x, from(api.Ack|more, 564, 1001, 9, ""), 1)
		s := from(api.Ack|more, 501, 1001, 9, "a")
		s.Urg, s.Opts = 77, []api.Opt{opts.PermitSack(), {Kind: 0}}
		takes(t, x, s, 1, acks(1001, 502, 15))
		takes(t, x, from(api.Ack|more|api.Fin, 502, 1001, 9, ""), 1, acks(1001, 502, 15))
	}
}

// Towards a client nothing is sent but answers.
func TestClientSendsNothing(t *testing.T) { // P20.2 to P20.5
	x := accepted(t, setup(), facts())
	for _, now := range []uint64{0, 10, 1000, 1 << 39} {
		ticks(t, x, now)
		for _, data := range []string{"", "x", strings.Repeat("x", api.MaxSniff+1)} {
			writesNone(t, x, data, now, api.ErrState)
		}
	}
	stands(t, x, endp.Open, 0)
	ends(t, x, 1001, 501, 16)
	if x.Done() {
		t.Error("it is Done")
	}
}

// At Reset nothing happens any more; what was is still told.
func TestClientReset(t *testing.T) { // P20.2, P20.4
	x := accepted(t, setup(), facts())
	takes(t, x, from(api.Ack, 501, 1001, 9, "ab"), 1, acks(1001, 503, 15))
	takes(t, x, from(api.Ack, 504, 1001, 9, "d"), 1, acks(1001, 503, 15))
	takes(t, x, from(api.Rst, 503, 0, 0, ""), 1)
	want := x.Facts()
	for _, x := range []*endp.End{x, x.Copy()} {
		for _, flags := range allFlags() {
			takes(t, x, from(flags, 503, 1001, 99, "cd"), 2)
		}
		ticks(t, x, 1<<39)
		writesNone(t, x, "x", 3, api.ErrState)
		stands(t, x, endp.Reset, 0)
		has(t, x, "ab", false)
		knows(t, x, want)
		ends(t, x, 1001, 503, 15)
	}
}

// Of all flags at Opening, the first of the words' lines that is so holds.
func TestOpeningFlags(t *testing.T) { // P20.2
	for _, flags := range allFlags() {
		for _, ack := range []uint32{0, 1000, 1001, 1002, 1001 + 1<<31} {
			x := connected(t, setup(), 5)
			writes(t, x, "hello", 5)
			s := from(flags, 7, ack, 3, "data")
			state, alarm, want := endp.Opening, uint64(15), []api.Segment(nil)
			switch {
			case flags&api.Ack != 0 && ack != 1001:
				if flags&api.Rst == 0 {
					want = []api.Segment{own(api.Rst, ack, 0, 0, "")}
				}
			case flags&api.Rst != 0:
				if flags&api.Ack != 0 {
					state, alarm = endp.Reset, 0
				}
			case flags&api.Syn == 0 || flags&api.Ack == 0:
			default:
				state, alarm = endp.Open, 19
				want = []api.Segment{acks(1001, 8, 0), carries(1001, 8, "hel")}
			}
			takes(t, x, s, 9, want...)
			stands(t, x, state, alarm)
			has(t, x, "", false)
			if state == endp.Open {
				knows(t, x, endp.Facts{Iss: 1000, Irs: 7, Mss: 536, Scale: -1, Window: 3})
				ends(t, x, 1004, 8, 0)
			} else {
				knows(t, x, endp.Facts{Iss: 1000, Scale: -1})
				endsNone(t, x)
			}
			if t.Failed() {
				t.Fatalf("flags %x, ack %d", flags, ack)
			}
		}
	}
}

// What the server's SYN says, as far as the setup offers it.
func TestOpeningFacts(t *testing.T) { // P20.2
	for _, offered := range []int{-1, 0, 2, 14} {
		for scale := -1; scale <= 16; scale++ {
			for sacks := range 4 {
				s := setup()
				s.Scale, s.Sack = offered, sacks&1 != 0
				x := connected(t, s, 5)
				a := from(api.Syn|api.Ack, 1<<32-1, 1001, 65535, "")
				want := endp.Facts{Iss: 1000, Irs: 1<<32 - 1, Mss: 536, Scale: -1, Sack: sacks == 3, Window: 65535}
				if scale != -1 {
					a.Opts = append(a.Opts, api.Opt{Kind: 3, Data: []byte{byte(scale)}})
					if offered != -1 {
						want.Scale = min(scale, 14)
					}
				}
				if sacks&2 != 0 {
					a.Opts = append(a.Opts, opts.PermitSack())
				}
				takes(t, x, a, 9, acks(1001, 0, 0))
				knows(t, x, want)
				stands(t, x, endp.Open, 0)
			}
		}
	}
}

func TestOpeningMss(t *testing.T) { // P20.2
	for _, offered := range []uint16{88, 89, 100, 535, 536, 537, 1460} {
		for _, told := range []int{-1, 0, 1, 87, 88, 89, 99, 100, 101, 536, 1460, 1461, 65535} {
			s := setup()
			s.Mss = offered
			x := connected(t, s, 5)
			a := from(api.Syn|api.Ack, 7, 1001, 65535, "")
			mss := told
			if told == -1 {
				// Options that are none of this kind, by their lengths.
				a.Opts, mss = []api.Opt{{Kind: 2, Data: []byte{1}}, {Kind: 2}, {Kind: 2, Data: []byte{0, 90, 0}}}, 536
			} else {
				a.Opts = []api.Opt{{Kind: 2}, opts.WithMss(uint16(told)), opts.WithMss(200)}
			}
			mss = min(max(mss, 88), int(offered))
			data := string(stream(1, 3000))
			writes(t, x, data, 6)
			want := []api.Segment{acks(1001, 8, 0)}
			for from := 0; from < len(data); from += mss {
				want = append(want, carries(1001+uint32(from), 8, data[from:min(from+mss, len(data))]))
			}
			takes(t, x, a, 9, want...)
			if got := x.Facts().Mss; int(got) != mss {
				t.Errorf("of %d and %d Mss is %d, want %d", offered, told, got, mss)
			}
		}
	}
}

// The window of a SYN is not scaled; those behind it are.
func TestOpeningWindow(t *testing.T) { // P20.2
	for scale := 0; scale <= api.MaxScale; scale++ {
		x := connected(t, setup(), 5)
		writes(t, x, "abcdefgh", 6)
		a := from(api.Syn|api.Ack, 7, 1001, 2, "")
		a.Opts = []api.Opt{opts.WithScale(scale)}
		takes(t, x, a, 9, acks(1001, 8, 0), carries(1001, 8, "ab"))
		if w := x.Facts().Window; w != 2 {
			t.Errorf("Window is %d", w)
		}
		to := min(8, 1+1<<scale)
		want := []api.Segment{carries(1003, 8, "abcdefgh"[2:max(to, 2)])}
		if to <= 2 {
			want = nil
		}
		takes(t, x, from(api.Ack, 8, 1002, 1, ""), 10, want...)
		takes(t, x, from(api.Ack, 8, 1002, 65535, ""), 10, carriesRest(to)...)
		if w := x.Facts().Window; w != 65535<<scale {
			t.Errorf("Window is %d, of scale %d", w, scale)
		}
	}
}

// carriesRest makes the segment of what is left of abcdefgh, from a place on.
func carriesRest(from int) []api.Segment {
	if from == 8 {
		return nil
	}
	return []api.Segment{carries(1001+uint32(from), 8, "abcdefgh"[from:])}
}

// The SYN is sent again at its alarms, till it was so Tries times.
func TestOpeningAlarms(t *testing.T) { // P20.2, P20.7
	for _, rto := range []uint64{1, 3, 1000, 1 << 30} {
		for tries := 1; tries <= 10; tries++ {
			for _, late := range []uint64{0, 1, 5} {
				s := setup()
				s.Rto, s.Tries = rto, tries
				now := uint64(77)
				x := connected(t, s, now)
				for n := range tries + 1 {
					at := now + rto<<n
					stands(t, x, endp.Opening, at)
					ticks(t, x, 0)
					ticks(t, x, at-1)
					stands(t, x, endp.Opening, at)
					now = at + late
					if n < tries {
						ticks(t, x, now, synOf(s))
					}
				}
				ticks(t, x, now)
				gone(t, x, endp.Failed)
				knows(t, x, endp.Facts{Iss: 1000, Scale: -1})
				endsNone(t, x)
			}
		}
	}
}

// gone asks that nothing happens any more to an end towards a server.
func gone(t *testing.T, x *endp.End, state int) {
	t.Helper()
	f := x.Facts()
	for _, x := range []*endp.End{x, x.Copy()} {
		for _, flags := range allFlags() {
			for _, at := range []uint32{7, 8} {
				takes(t, x, from(flags, at, 1001, 99, "cd"), 2)
			}
		}
		for _, now := range []uint64{0, 1000, 1 << 39, 1 << 62} {
			ticks(t, x, now)
		}
		writes(t, x, "more", 3)
		writes(t, x, strings.Repeat("x", api.MaxSniff/2), 3)
		stands(t, x, state, 0)
		knows(t, x, f)
		if x.Done() {
			t.Error("it is Done")
		}
	}
}

// The alarm that the SYN had is no more behind the server's SYN.
func TestOpeningAlarmGone(t *testing.T) { // P20.2, P20.4
	x := connected(t, setup(), 0)
	ticks(t, x, 10, synOf(setup()))
	ticks(t, x, 30, synOf(setup()))
	takes(t, x, from(api.Syn|api.Ack, 7, 1001, 9, ""), 69, acks(1001, 8, 0))
	stands(t, x, endp.Open, 0)
	ticks(t, x, 1000)
	writes(t, x, "ab", 1000, carries(1001, 8, "ab"))
	stands(t, x, endp.Open, 1010)
	ticks(t, x, 1010, carries(1001, 8, "ab")) // the count begins anew
	ticks(t, x, 1030, carries(1001, 8, "ab"))
	ticks(t, x, 1070)
	stands(t, x, endp.Failed, 0)
}

func TestWriteOpening(t *testing.T) { // P20.3
	x := connected(t, setup(), 0)
	writes(t, x, "", 1)
	writes(t, x, "ab", 2)
	writes(t, x, "", 3)
	writes(t, x, "cd", 4)
	stands(t, x, endp.Opening, 10)
	ticks(t, x, 10, synOf(setup()))
	takes(t, x, from(api.Syn|api.Ack, 7, 1001, 3, ""), 15, acks(1001, 8, 0), carries(1001, 8, "abc"))
	stands(t, x, endp.Open, 25)
	writes(t, x, "ef", 16)
	takes(t, x, from(api.Ack, 8, 1002, 9, ""), 17, carries(1004, 8, "def"))
	stands(t, x, endp.Open, 27)
}

func TestWriteOpen(t *testing.T) { // P20.3
	x := opened(t)
	writes(t, x, "", 101)
	stands(t, x, endp.Open, 0)
	if !x.Done() {
		t.Error("it is not Done")
	}
	writes(t, x, "ab", 102, carries(1001, 8, "ab"))
	stands(t, x, endp.Open, 112)
	ends(t, x, 1003, 8, 0)
	long := string(stream(2, 120))
	writes(t, x, long, 103, carries(1003, 8, long[:48]))
	stands(t, x, endp.Open, 112)
	takes(t, x, from(api.Ack, 8, 1003, 200, ""), 104, carries(1051, 8, long[48:]))
	stands(t, x, endp.Open, 114)
	if x.Done() {
		t.Error("it is Done")
	}
	takes(t, x, from(api.Ack, 8, 1123, 200, ""), 105)
	stands(t, x, endp.Open, 0)
	if !x.Done() {
		t.Error("it is not Done")
	}
	ends(t, x, 1123, 8, 0)
	writes(t, x, long+long+long, 106, carries(1123, 8, (long + long)[:100]), carries(1223, 8, (long + long + long)[100:200]),
		carries(1323, 8, (long + long + long)[200:300]), carries(1423, 8, (long + long + long)[300:]))
}

// All that was ever written counts, acknowledged or not.
func TestWriteLong(t *testing.T) { // P20.3: ErrLong, and nothing changes
	long := string(stream(3, api.MaxSniff))
	for _, first := range []int{0, 1, 5000, api.MaxSniff - 1, api.MaxSniff} {
		x := connected(t, setup(), 0)
		writes(t, x, long[:first], 1)
		writesNone(t, x, long[first:]+"-", 2, api.ErrLong)
		writesNone(t, x, strings.Repeat("-", 1<<17), 2, api.ErrLong)
		a := from(api.Syn|api.Ack, 7, 1001, 65535, "")
		x.Take(a, 3)
		x.Take(from(api.Ack, 8, 1001+uint32(first), 65535, ""), 4)
		if !x.Done() {
			t.Error("it is not Done")
		}
		writesNone(t, x, long[first:]+"-", 5, api.ErrLong)
		writesNone(t, x, strings.Repeat("-", 1<<17), 5, api.ErrLong)
		if !x.Done() {
			t.Error("it is not Done")
		}
		ends(t, x, 1001+uint32(first), 8, 0)
		told, e := x.Write([]byte(long[first:]), 6)
		got := ""
		for _, s := range told {
			got += string(s.Data)
		}
		if got != long[first:] || e != api.OK {
			t.Errorf("%d bytes were sent, %d; want %d", len(got), e, len(long)-first)
		}
		writesNone(t, x, "-", 7, api.ErrLong)
		writes(t, x, "", 7)
	}
}

// Of all flags at Open, the first of the words' lines that is so holds.
func TestServerFlags(t *testing.T) { // P20.2
	for _, flags := range allFlags() {
		for _, at := range []uint32{7, 8, 9, 7 + endp.Stretch, 8 + endp.Stretch} {
			for _, ack := range []uint32{1000, 1001, 1002, 1051, 1052} {
				x := opened(t)
				long := string(stream(4, 160))
				writes(t, x, long, 101, carries(1001, 8, long[:50]))
				state, window, want := endp.Open, uint32(50), []api.Segment{acks(1051, 8, 0)}
				alarm := uint64(111)
				switch {
				case flags&api.Syn != 0:
				case flags&api.Rst != 0:
					want = nil
					if at == 8 {
						state, alarm = endp.Reset, 0
					}
				case flags&api.Ack == 0:
					want = nil
				case at == 7 || at == 8+endp.Stretch || ack == 1052:
				default:
					if flags&api.Fin == 0 {
						want = nil
					}
					if ack != 1000 {
						window = 60 // twice 30
						want = append(want, carries(1051, 8, long[50:ack-1001+60]))
					}
					if ack > 1001 {
						alarm = 112
					}
				}
				takes(t, x, from(flags, at, ack, 30, ""), 102, want...)
				stands(t, x, state, alarm)
				has(t, x, "", false)
				if w := x.Facts().Window; w != window {
					t.Errorf("Window is %d, want %d", w, window)
				}
				if t.Failed() {
					t.Fatalf("flags %x at %d, ack %d", flags, at, ack)
				}
			}
		}
	}
}

// The server's RST holds at just one number.
func TestServerRst(t *testing.T) { // P20.2
	for _, more := range []byte{0, api.Ack, api.Fin | api.Psh} {
		x := opened(t)
		for _, at := range []uint32{0, 6, 7, 9, 10, 8 + endp.Stretch, 8 + 1<<31, 1<<32 - 1} {
			takes(t, x, from(api.Rst|more, at, 1001, 9, "x"), 101)
			stands(t, x, endp.Open, 0)
		}
		takes(t, x, from(api.Rst|more, 8, 999, 9, ""), 101)
		gone(t, x, endp.Reset)
		ends(t, x, 1001, 8, 0)
	}
}

// A segment's number must stand in the stretch; of those in it any will do.
func TestServerStretch(t *testing.T) { // P20.2
	for _, irs := range []uint32{7, 1<<32 - 1, 1<<32 - 5000, 1<<31 - 2} {
		for _, ahead := range []uint32{0, 1, 1000, 65534, 65535} {
			x := openedAt(t, irs)
			writes(t, x, "abcd", 101, carries(1001, irs+1, "ab"))
			takes(t, x, from(api.Ack, irs+1+ahead, 1003, 9, ""), 102, carries(1003, irs+1, "cd"))
		}
		for _, ahead := range []uint32{65536, 65537, 1 << 31, 1<<32 - 1, 1<<32 - 2} {
			x := openedAt(t, irs)
			writes(t, x, "abcd", 101, carries(1001, irs+1, "ab"))
			takes(t, x, from(api.Ack, irs+1+ahead, 1003, 9, ""), 102, acks(1003, irs+1, 0))
			takes(t, x, from(api.Ack, irs+1+ahead, 1003, 9, "data"), 102, acks(1003, irs+1, 0))
			if w := x.Facts().Window; w != 2 {
				t.Errorf("Window is %d", w)
			}
			ticks(t, x, 111, carries(1001, irs+1, "ab"))
		}
	}
}

// openedAt makes an end that is Open, towards a server whose SYN stands at irs,
// with a window of 2.
func openedAt(t *testing.T, irs uint32) *endp.End {
	t.Helper()
	x := connected(t, setup(), 90)
	takes(t, x, from(api.Syn|api.Ack, irs, 1001, 2, ""), 100, acks(1001, irs+1, 0))
	return x
}

// What acknowledges more than was sent gets an ACK, and nothing changes; what
// acknowledges less than before says nothing of a window.
func TestServerAcks(t *testing.T) { // P20.2
	x := openedAt(t, 7)
	writes(t, x, "abcdef", 101, carries(1001, 8, "ab"))
	for _, ack := range []uint32{1004, 1007, 1008, 1002 + 1<<31} {
		takes(t, x, from(api.Ack, 8, ack, 9, ""), 102, acks(1003, 8, 0))
		takes(t, x, from(api.Ack, 8, ack, 9, "data"), 102, acks(1003, 8, 0))
	}
	for _, ack := range []uint32{1000, 1, 0, 1<<32 - 1, 1003 + 1<<31} {
		takes(t, x, from(api.Ack, 8, ack, 9, ""), 102)
		takes(t, x, from(api.Ack, 8, ack, 9, "data"), 102, acks(1003, 8, 0))
		takes(t, x, from(api.Ack|api.Fin, 8, ack, 9, ""), 102, acks(1003, 8, 0))
	}
	knows(t, x, endp.Facts{Iss: 1000, Irs: 7, Mss: 536, Scale: -1, Window: 2})
	stands(t, x, endp.Open, 111)
	takes(t, x, from(api.Ack, 8, 1001, 3, ""), 103, carries(1003, 8, "c"))
	stands(t, x, endp.Open, 111)
	takes(t, x, from(api.Ack, 8, 1004, 1, "data"), 104, acks(1004, 8, 0), carries(1004, 8, "d"))
	stands(t, x, endp.Open, 114)
	takes(t, x, from(api.Ack|api.Fin, 8, 1005, 0, ""), 105, acks(1005, 8, 0))
	knows(t, x, endp.Facts{Iss: 1000, Irs: 7, Mss: 536, Scale: -1, Window: 0})
	takes(t, x, from(api.Ack, 8, 1004, 9, ""), 106)
	knows(t, x, endp.Facts{Iss: 1000, Irs: 7, Mss: 536, Scale: -1, Window: 0})
	takes(t, x, from(api.Ack, 8, 1005, 9, ""), 107, carries(1005, 8, "ef"))
	if x.Done() {
		t.Error("it is Done")
	}
	takes(t, x, from(api.Ack, 8, 1007, 9, ""), 108)
	if !x.Done() {
		t.Error("it is not Done")
	}
}

// Round the end of all numbers.
func TestServerNumbers(t *testing.T) { // P20.2, P20.6
	s := setup()
	s.Iss = 1<<32 - 4
	x := connected(t, s, 0)
	writes(t, x, "abcdefgh", 0)
	takes(t, x, from(api.Syn|api.Ack, 1<<32-1, 1<<32-4, 5, ""), 1, own(api.Rst, 1<<32-4, 0, 0, ""))
	takes(t, x, from(api.Syn|api.Ack, 1<<32-1, 1<<32-3, 5, ""), 1, acks(1<<32-3, 0, 0), carries(1<<32-3, 0, "abcde"))
	takes(t, x, from(api.Ack, 0, 0, 4, ""), 2, carries(2, 0, "fg"))
	takes(t, x, from(api.Ack, 0, 5, 4, ""), 3, acks(4, 0, 0))
	takes(t, x, from(api.Ack, 1<<32-1, 4, 4, ""), 3, acks(4, 0, 0))
	takes(t, x, from(api.Ack, 0, 4, 4, ""), 4, carries(4, 0, "h"))
	ticks(t, x, 14, carries(4, 0, "h"))
	takes(t, x, from(api.Ack, 0, 5, 4, ""), 15)
	if !x.Done() {
		t.Error("it is not Done")
	}
}

// At Open rexmit's alarm tells its piece, or that the server does not answer.
func TestServerAlarms(t *testing.T) { // P20.2, P20.7
	for _, rto := range []uint64{1, 3, 1 << 30} {
		for tries := 1; tries <= 10; tries++ {
			s := setup()
			s.Rto, s.Tries = rto, tries
			x := connected(t, s, 0)
			takes(t, x, from(api.Syn|api.Ack, 7, 1001, 3, ""), 0, acks(1001, 8, 0))
			writes(t, x, "abcd", 20, carries(1001, 8, "abc"))
			now := uint64(20)
			for n := range tries {
				at := now + rto<<n
				stands(t, x, endp.Open, at)
				ticks(t, x, at-1)
				ticks(t, x, at, carries(1001, 8, "abc"))
				now = at
			}
			at := now + rto<<tries
			stands(t, x, endp.Open, at)
			ticks(t, x, at-1)
			ticks(t, x, at)
			gone(t, x, endp.Failed)
			ends(t, x, 1004, 8, 0)
		}
	}
}

// Where there is no window a byte is tried; its answer may be ahead of Irs + 1.
func TestServerNoWindow(t *testing.T) { // P20.2
	x := connected(t, setup(), 0)
	writes(t, x, "abc", 0)
	takes(t, x, from(api.Syn|api.Ack, 7, 1001, 0, ""), 1, acks(1001, 8, 0))
	ticks(t, x, 10)
	ticks(t, x, 11, carries(1001, 8, "a"))
	ends(t, x, 1002, 8, 0)
	takes(t, x, from(api.Ack, 8, 1001, 0, ""), 12)
	takes(t, x, from(api.Ack, 9, 1002, 0, ""), 13)
	stands(t, x, endp.Open, 23)
	ticks(t, x, 23, carries(1002, 8, "b"))
	takes(t, x, from(api.Ack, 9, 1002, 7, ""), 24, carries(1003, 8, "c"))
}

// The greatest segments, within the greatest window.
func TestServerGreatest(t *testing.T) { // P20.2, P20.3
	s := setup()
	s.Mss, s.Scale = 1460, 14
	x := connected(t, s, 0)
	a := from(api.Syn|api.Ack, 7, 1001, 0, "")
	a.Opts = []api.Opt{opts.WithMss(65535), opts.WithScale(255)}
	takes(t, x, a, 1, acks(1001, 8, 0))
	takes(t, x, from(api.Ack, 8, 1001, 65535, ""), 2)
	knows(t, x, endp.Facts{Iss: 1000, Irs: 7, Mss: 1460, Scale: 14, Window: 65535 << 14})
	data := string(stream(5, api.MaxSniff))
	var want []api.Segment
	for at := 0; at < len(data); at += 1460 {
		want = append(want, carries(1001+uint32(at), 8, data[at:min(at+1460, len(data))]))
	}
	writes(t, x, data, 3, want...)
	ticks(t, x, 13, carries(1001, 8, data[:1460]))
	for _, s := range want {
		if !tcp.May(s) {
			t.Errorf("of %d bytes is no segment", len(s.Data))
		}
	}
}

// Each of two lives on as if there were no other.
func TestCopyApart(t *testing.T) { // P20.4
	x := accepted(t, setup(), facts())
	takes(t, x, from(api.Ack, 501, 1001, 9, "ab"), 1, acks(1001, 503, 15))
	takes(t, x, from(api.Ack, 504, 1001, 9, "d"), 1, acks(1001, 503, 15))
	y := x.Copy()
	takes(t, x, from(api.Ack, 503, 1001, 9, "c"), 2, acks(1001, 505, 15))
	takes(t, y, from(api.Ack, 503, 1001, 10, "CDE"), 2, acks(1001, 506, 14))
	takes(t, x, from(api.Ack|api.Fin, 505, 1001, 9, "f"), 3, acks(1001, 506, 14))
	has(t, x, "abcdf", true)
	has(t, y, "abCdE", false)
	takes(t, y, from(api.Rst, 506, 0, 0, ""), 4)
	stands(t, x, endp.Open, 0)
	stands(t, y, endp.Reset, 0)
	if x.Facts().Window != 72 || y.Facts().Window != 80 {
		t.Errorf("Windows are %d, %d", x.Facts().Window, y.Facts().Window)
	}
}

func TestCopyApartServer(t *testing.T) { // P20.4
	x := connected(t, setup(), 0)
	writes(t, x, "ab", 1)
	y := x.Copy()
	stands(t, y, endp.Opening, 10)
	writes(t, x, "cd", 2)
	writes(t, y, "CDE", 2)
	ticks(t, x, 10, synOf(setup()))
	stands(t, y, endp.Opening, 10)
	takes(t, x, from(api.Syn|api.Ack, 7, 1001, 3, ""), 11, acks(1001, 8, 0), carries(1001, 8, "abc"))
	stands(t, y, endp.Opening, 10)
	endsNone(t, y)
	takes(t, y, from(api.Syn|api.Ack, 77, 1001, 9, ""), 12, acks(1001, 78, 0), carries(1001, 78, "abCDE"))
	z := x.Copy()
	takes(t, x, from(api.Ack, 8, 1002, 9, ""), 13, carries(1004, 8, "d"))
	stands(t, z, endp.Open, 21)
	writes(t, z, "xyz", 14)
	takes(t, z, from(api.Ack, 8, 1004, 9, ""), 15, carries(1004, 8, "dxyz"))
	writes(t, x, "uvw", 16, carries(1005, 8, "uvw"))
	stands(t, x, endp.Open, 23)
	stands(t, z, endp.Open, 25)
	knows(t, y, endp.Facts{Iss: 1000, Irs: 77, Mss: 536, Scale: -1, Window: 9})
}

// Behind the same bytes each of two has its own.
func TestCopyWritten(t *testing.T) { // P20.4
	for long := range 70 {
		data := string(stream(6, long))
		x := connected(t, setup(), 0)
		writes(t, x, data, 1)
		y := x.Copy()
		writes(t, x, "x", 1)
		writes(t, y, "y", 1)
		a := from(api.Syn|api.Ack, 7, 1001, 99, "")
		takes(t, x, a, 2, acks(1001, 8, 0), carries(1001, 8, data+"x"))
		takes(t, y, a, 2, acks(1001, 8, 0), carries(1001, 8, data+"y"))
	}
	for long := 1; long < 60; long++ {
		data := string(stream(7, long))
		x := accepted(t, setup(), facts())
		x.Take(from(api.Ack, 501, 1001, 9, data), 1)
		y := x.Copy()
		x.Take(from(api.Ack, 501+uint32(long), 1001, 9, "x"), 1)
		y.Take(from(api.Ack, 501+uint32(long), 1001, 9, "y"), 1)
		has(t, x, data+"x", false)
		has(t, y, data+"y", false)
	}
}

// What is handed in is only read, and not kept.
func TestKeepsNothing(t *testing.T) { // R3
	data := append(make([]byte, 0, 20), "abcdefgh"...)
	x := accepted(t, setup(), facts())
	s := from(api.Ack, 503, 1001, 9, "")
	s.Data = data[2:4]
	takes(t, x, s, 1, acks(1001, 501, 16))
	s.Seq, s.Data = 501, data[:2]
	takes(t, x, s, 1, acks(1001, 505, 15))
	y := connected(t, setup(), 0)
	y.Write(data[:4], 1)
	if string(data) != "abcdefgh" {
		t.Errorf("data became %q", data)
	}
	clear(data)
	has(t, x, "abcd", false)
	a := from(api.Syn|api.Ack, 7, 1001, 99, "")
	a.Opts = []api.Opt{opts.WithMss(300), opts.WithScale(3)}
	takes(t, y, a, 2, acks(1001, 8, 0), carries(1001, 8, "abcd"))
	clear(a.Opts[0].Data)
	clear(a.Opts)
	knows(t, y, endp.Facts{Iss: 1000, Irs: 7, Mss: 300, Scale: 3, Window: 99})
	copy(data, "efgh")
	y.Write(data[:4], 3)
	clear(data)
	takes(t, y, from(api.Ack, 8, 1005, 99, ""), 4)
	ticks(t, y, 14, carries(1005, 8, "efgh"))
}

// What is answered is new memory.
func TestAnswersNewMemory(t *testing.T) { // R3
	x := accepted(t, setup(), facts())
	takes(t, x, from(api.Ack, 501, 1001, 9, "ab"), 1, acks(1001, 503, 15))
	got := x.Bytes()
	clear(got)
	_ = append(got, "----"...)
	has(t, x, "ab", false)
	takes(t, x, from(api.Ack, 503, 1001, 9, "cd"), 1, acks(1001, 505, 15))
	has(t, x, "abcd", false)

	y, told, _ := endp.Connect(setup(), 0)
	for _, o := range told[0].Opts {
		clear(o.Data)
	}
	clear(told[0].Opts)
	ticks(t, y, 10, synOf(setup()))
	writes(t, y, "abcd", 11)
	told, _ = y.Take(from(api.Syn|api.Ack, 7, 1001, 99, ""), 12)
	clear(told[1].Data)
	_ = append(told[1].Data, "----"...)
	told, _ = y.Tick(22)
	if string(told[0].Data) != "abcd" {
		t.Errorf("Tick tells %q", told[0].Data)
	}
	clear(told[0].Data)
	ticks(t, y, 42, carries(1001, 8, "abcd"))
}

// client sends a stream, from Irs + 1 on, in any pieces, and a FIN behind it.
type client struct {
	c    *chance
	all  []byte
	next uint32 // what the first byte stands at
}

// piece makes a segment of the stream by chance.
func (p *client) piece() api.Segment {
	begin := p.c.below(len(p.all) + 1)
	return p.from(begin, p.c.below(40))
}

// from makes the segment of the stream from a place on.
func (p *client) from(begin, long int) api.Segment {
	behind := min(begin+long, len(p.all))
	s := from(api.Ack, p.next+uint32(begin), 1001, uint16(p.c.next()), string(p.all[begin:behind]))
	if behind == len(p.all) && p.c.below(3) > 0 {
		s.Flags |= api.Fin
	}
	return s
}

// Whatever comes of a client's stream, what is taken is a beginning of it, and
// just that is acknowledged.
func TestAnyOrder(t *testing.T) { // P20.5, P20.6
	ended := 0
	for seed := range chance(300) {
		c := seed
		s, f := setup(), facts()
		s.Room, s.Scale, f.Irs = 1+c.below(600), -1, -uint32(c.below(300))
		p := &client{c: &c, all: stream(seed, 1+c.below(600)), next: f.Irs + 1}
		x := accepted(t, s, f)
		for n := range 400 {
			seg := p.piece()
			if n >= 200 { // at last it sends from the first byte that is missing on
				seg = p.from(len(x.Bytes()), 40)
			}
			seg.Flags |= []byte{0, 0, 0, 0, 0, 0, 0, api.Syn, api.Psh, api.Urg}[c.below(10)]
			if c.below(10) == 0 {
				seg.Ack += uint32(c.below(3)) - 1
			}
			told, e := x.Take(seg, uint64(n))
			got := x.Bytes()
			if e != api.OK || !bytes.HasPrefix(p.all, got) || len(got) > s.Room {
				t.Fatalf("seed %d: %d bytes that are no beginning, %d", seed, len(got), e)
			}
			want := acks(1001, p.next+uint32(len(got)), uint16(s.Room-len(got)))
			for _, a := range append(told, x.Ack()) {
				if !tcp.Same(a, want) {
					t.Fatalf("seed %d: it tells %s, want %s", seed, text([]api.Segment{a}), text([]api.Segment{want}))
				}
			}
			if x.Ended() && len(got) != len(p.all) {
				t.Fatalf("seed %d: it has ended behind %d bytes of %d", seed, len(got), len(p.all))
			}
		}
		if want := min(s.Room, len(p.all)); len(x.Bytes()) != want {
			t.Errorf("seed %d: %d bytes were taken, want %d", seed, len(x.Bytes()), want)
		}
		if x.Ended() {
			ended++
		}
	}
	if ended < 100 {
		t.Errorf("only %d have ended", ended)
	}
}

// Two ends, one of each side: segments and answers are lost, but all comes, each
// byte at its number.
func TestEndToEnd(t *testing.T) { // P20.5, P20.6
	for seed := range chance(100) {
		c := seed
		data := stream(seed, c.below(4000))
		s := setup()
		s.Iss, s.Mss, s.Tries, s.Rto = -uint32(c.below(3000)), 88+uint16(c.below(200)), 10, 1+uint64(c.below(4))
		x, onway, _ := endp.Connect(s, 0)
		there := setup()
		there.Iss, there.Room, there.Scale = uint32(c.next()), api.MaxSniff, -1
		y := accepted(t, there, endp.Facts{Irs: s.Iss, Mss: s.Mss, Scale: -1})
		wrote := 0
		for now := uint64(1); !x.Done() || wrote < len(data); now++ {
			if now > 1<<20 || x.State() == endp.Failed {
				t.Fatalf("seed %d: %d of %d bytes came", seed, len(y.Bytes()), len(data))
			}
			more := data[wrote:min(len(data), wrote+c.below(200))]
			wrote += len(more)
			told, _ := x.Write(more, now)
			onway = append(onway, told...)
			told, _ = x.Tick(now)
			onway = append(onway, told...)
			var back []api.Segment
			for _, sent := range onway {
				holds(t, seed, sent, s.Iss, there.Iss, data[:wrote])
				if c.below(6) == 0 {
					continue
				}
				if sent.Flags == api.Syn {
					back = append(back, from(api.Syn|api.Ack, there.Iss, s.Iss+1, uint16(c.below(300)), ""))
					continue
				}
				told, _ := y.Take(sent, now)
				back = append(back, told...)
			}
			onway = nil
			for _, sent := range back {
				if c.below(6) == 0 {
					continue
				}
				if sent.Flags&api.Syn == 0 {
					sent.Win = uint16(c.below(300))
				}
				told, _ := x.Take(sent, now)
				onway = append(onway, told...)
			}
		}
		if !bytes.Equal(y.Bytes(), data) {
			t.Errorf("seed %d: %d bytes came, want %d", seed, len(y.Bytes()), len(data))
		}
	}
}

// holds asks that what is sent to the server is what was written, at its number,
// and acknowledges its SYN alone.
func holds(t *testing.T, seed chance, s api.Segment, iss, irs uint32, written []byte) {
	t.Helper()
	if s.Flags == api.Syn && s.Seq == iss && s.Win == 0 {
		return
	}
	at := int(s.Seq - iss - 1)
	if s.Ack != irs+1 || s.Win != 0 || at+len(s.Data) > len(written) || !bytes.Equal(s.Data, written[at:at+len(s.Data)]) {
		t.Fatalf("seed %d: %s is not what was written", seed, text([]api.Segment{s}))
	}
}

// model is a second working of the chapter's words.
type model struct {
	state int
	s     endp.Setup
	f     endp.Facts

	// Towards a client: what came by its numbers, and what was taken of it.
	client bool
	came   map[uint32]byte
	took   []byte
	ended  bool

	// Towards a server: all that was written, by places from 0 on.
	all        []byte
	una, nxt   int
	heard      bool
	wait, tick uint64
	count      int
}

func (m *model) number(place int) uint32 { return m.s.Iss + 1 + uint32(place) }

func (m *model) waits() uint32 { return m.f.Irs + 1 + uint32(len(m.took)) }

func (m *model) room() uint32 { return uint32(m.s.Room - len(m.took)) }

func (m *model) ack() api.Segment {
	if !m.client {
		return acks(m.number(m.nxt), m.waits(), 0)
	}
	win := m.room()
	for n := 0; m.f.Scale != -1 && n < m.s.Scale; n++ {
		win /= 2
	}
	return acks(m.number(0), m.waits(), uint16(win))
}

func (m *model) acks() []api.Segment { return []api.Segment{m.ack()} }

// due tells the alarm, and whether there is one.
func (m *model) due() (uint64, bool) {
	if m.state == endp.Opening || m.state == endp.Open && m.una < len(m.all) {
		return m.tick, true
	}
	return 0, false
}

func (m *model) anew(now uint64) { m.wait, m.count, m.tick = m.s.Rto, 0, now+m.s.Rto }

// tell tells the bytes from a place up to another one.
func (m *model) tell(from, to int) api.Segment {
	m.nxt = max(m.nxt, to)
	return carries(m.number(from), m.waits(), string(m.all[from:to]))
}

func (m *model) send() (out []api.Segment) {
	for m.nxt < len(m.all) && m.nxt-m.una < int(m.f.Window) {
		to := m.nxt
		for to < len(m.all) && to-m.una < int(m.f.Window) && to-m.nxt < int(m.f.Mss) {
			to++
		}
		out = append(out, m.tell(m.nxt, to))
	}
	return out
}

func (m *model) write(data []byte, now uint64) ([]api.Segment, api.Errno) {
	if m.client {
		return nil, api.ErrState
	}
	if len(m.all)+len(data) > api.MaxSniff {
		return nil, api.ErrLong
	}
	if m.state > endp.Open {
		return nil, api.OK
	}
	before := len(m.all)
	m.all = append(m.all, data...)
	if m.state == endp.Opening {
		return nil, api.OK
	}
	if before == m.una && len(data) > 0 {
		m.anew(now)
	}
	return m.send(), api.OK
}

func (m *model) ticked(now uint64) []api.Segment {
	at, set := m.due()
	if !set || now < at {
		return nil
	}
	if m.count == m.s.Tries {
		m.state = endp.Failed
		return nil
	}
	m.count++
	m.wait += m.wait
	m.tick = now + m.wait
	if m.state == endp.Opening {
		return []api.Segment{synOf(m.s)}
	}
	to := m.una + 1
	for to < len(m.all) && to-m.una < int(m.f.Mss) && to-m.una < int(m.f.Window) {
		to++
	}
	return []api.Segment{m.tell(m.una, to)}
}

func (m *model) take(s api.Segment, now uint64) []api.Segment {
	switch {
	case m.state == endp.Opening:
		return m.opening(s, now)
	case m.state != endp.Open:
		return nil
	case m.client:
		return m.fromClient(s)
	}
	return m.fromServer(s, now)
}

// asks tells whether a segment has Data or FIN.
func asks(s api.Segment) bool { return len(s.Data) > 0 || s.Flags&api.Fin != 0 }

func (m *model) fromClient(s api.Segment) []api.Segment {
	ahead := s.Seq - m.waits()
	if s.Flags&api.Syn != 0 {
		return m.acks()
	}
	if s.Flags&api.Rst != 0 {
		if ahead == 0 {
			m.state = endp.Reset
		} else if ahead < m.room() {
			return m.acks()
		}
		return nil
	}
	if s.Flags&api.Ack == 0 {
		return nil
	}
	if long := tcp.Length(s); s.Ack != m.s.Iss+1 || !(long == 0 && ahead == 0) && ahead >= m.room() &&
		(long == 0 || ahead+long-1 >= m.room()) {
		return m.acks()
	}
	m.f.Window = m.scaled(s.Win)
	m.lay(s)
	for {
		b, is := m.came[m.waits()]
		if !is {
			break
		}
		delete(m.came, m.waits())
		m.took = append(m.took, b)
	}
	m.ended = m.ended || s.Flags&api.Fin != 0 && m.waits() == s.Seq+uint32(len(s.Data))
	if asks(s) {
		return m.acks()
	}
	return nil
}

func (m *model) scaled(win uint16) uint32 {
	out := uint32(win)
	for n := 0; n < m.f.Scale; n++ {
		out *= 2
	}
	return out
}

// lay lays what of the data stands in the room, if there are not too many pieces
// then.
func (m *model) lay(s api.Segment) {
	fresh := map[uint32]byte{}
	for at, b := range m.came {
		fresh[at] = b
	}
	for i, b := range s.Data {
		at := s.Seq + uint32(i)
		if _, there := fresh[at]; !there && at-m.waits() < m.room() {
			fresh[at] = b
		}
	}
	pieces := 0
	for at := range fresh {
		if _, is := fresh[at-1]; !is && at != m.waits() {
			pieces++
		}
	}
	if pieces <= api.MaxHoles {
		m.came = fresh
	}
}

func (m *model) opening(s api.Segment, now uint64) []api.Segment {
	answers, resets := s.Flags&api.Ack != 0, s.Flags&api.Rst != 0
	if answers && s.Ack != m.s.Iss+1 {
		if resets {
			return nil
		}
		return []api.Segment{own(api.Rst, s.Ack, 0, 0, "")}
	}
	if resets && answers {
		m.state = endp.Reset
	}
	if resets || !answers || s.Flags&api.Syn == 0 {
		return nil
	}
	mss, there := opts.Mss(s.Opts)
	if !there {
		mss = 536
	}
	scale, there := opts.Scale(s.Opts)
	if !there || m.s.Scale == -1 {
		scale = -1
	}
	m.f = endp.Facts{
		Iss: m.s.Iss, Irs: s.Seq, Mss: min(max(mss, 88), m.s.Mss), Scale: scale,
		Sack: m.s.Sack && opts.SackOk(s.Opts), Window: uint32(s.Win),
	}
	m.state, m.heard = endp.Open, true
	m.anew(now)
	return append(m.acks(), m.send()...)
}

func (m *model) fromServer(s api.Segment, now uint64) (out []api.Segment) {
	ahead := s.Seq - m.waits()
	if s.Flags&api.Syn != 0 {
		return m.acks()
	}
	if s.Flags&api.Rst != 0 {
		if ahead == 0 {
			m.state = endp.Reset
		}
		return nil
	}
	if s.Flags&api.Ack == 0 {
		return nil
	}
	if ahead >= 65536 || int32(s.Ack-m.number(m.nxt)) > 0 {
		return m.acks()
	}
	if gone := int32(s.Ack - m.number(m.una)); gone >= 0 {
		m.f.Window = m.scaled(s.Win)
		m.una += int(gone)
		if gone > 0 {
			m.anew(now)
		}
	}
	if asks(s) {
		out = m.acks()
	}
	return append(out, m.send()...)
}

// both is an end and its model.
type both struct {
	x *endp.End
	m *model
}

// same holds all that the end tells of itself against the model.
func (b both) same(t *testing.T) {
	t.Helper()
	at, _ := b.m.due()
	stands(t, b.x, b.m.state, at)
	knows(t, b.x, b.m.f)
	has(t, b.x, string(b.m.took), b.m.ended)
	if done := !b.m.client && b.m.state == endp.Open && b.m.una == len(b.m.all); b.x.Done() != done {
		t.Errorf("Done() = %t, want %t", b.x.Done(), done)
	}
	if a := b.m.ack(); b.m.heard {
		ends(t, b.x, a.Seq, a.Ack, a.Win)
	} else {
		endsNone(t, b.x)
	}
}

// near makes a number from one up to another, near them, or, seldom, anywhere.
func near(c *chance, from, to uint32) uint32 {
	switch c.below(15) {
	case 0:
		return uint32(c.next())
	case 1:
		return from - 1
	case 2:
		return to + 1
	}
	return from + uint32(c.below(int(to-from)+1))
}

// oddSegment makes a segment near what the model has.
func oddSegment(c *chance, m *model) api.Segment {
	flags := []byte{api.Ack, api.Ack, api.Ack, api.Ack | api.Psh, api.Ack | api.Fin, byte(c.next())}[c.below(6)]
	if c.below(8) > 0 {
		flags &^= api.Rst | api.Syn
	}
	if m.state == endp.Opening && c.below(3) == 0 {
		flags = api.Syn | api.Ack
	}
	s := from(flags, 0, 0, uint16(c.below(60)), string(stream(chance(c.next()), c.below(30))))
	if c.below(3) == 0 {
		s.Data = nil
	}
	if m.client {
		s.Seq, s.Ack = near(c, m.waits()-3, m.waits()+m.room()), m.s.Iss+1
		if c.below(4) == 0 {
			s.Seq = m.waits()
		}
		if c.below(20) == 0 {
			s.Ack += uint32(c.below(3)) - 1
		}
		return s
	}
	s.Seq, s.Ack = near(c, m.waits(), m.waits()+65535), near(c, m.number(m.una), m.number(m.nxt))
	if c.below(4) == 0 {
		s.Seq = m.waits()
	}
	if c.below(2) == 0 {
		s.Opts = append(s.Opts, opts.WithMss(uint16(80+c.below(60))))
	}
	if c.below(2) == 0 {
		s.Opts = append(s.Opts, opts.WithScale(c.below(3)))
	}
	if c.below(2) == 0 {
		s.Opts = append(s.Opts, opts.PermitSack())
	}
	return s
}

// step lets both do one thing by chance, and holds their answers against each
// other.
func (b both) step(t *testing.T, c *chance, now uint64) {
	t.Helper()
	switch c.below(5) {
	case 0:
		data := string(stream(chance(c.next()), c.below(200)))
		if c.below(100) == 0 {
			data = strings.Repeat("x", api.MaxSniff-c.below(100))
		}
		if want, e := b.m.write([]byte(data), now); e == api.OK {
			writes(t, b.x, data, now, want...)
		} else {
			writesNone(t, b.x, data, now, e)
		}
	case 1:
		ticks(t, b.x, now, b.m.ticked(now)...)
	default:
		s := oddSegment(c, b.m)
		takes(t, b.x, s, now, b.m.take(s, now)...)
	}
}

// oddEnd makes an end and its model, that may be set up in any way.
func oddEnd(t *testing.T, c *chance, now uint64) both {
	s := setup()
	s.Iss, s.Mss, s.Scale, s.Sack = -uint32(c.below(500)), 88+uint16(c.below(50)), c.below(4)-1, c.below(2) == 0
	s.Room, s.Rto, s.Tries = c.below(200), 1+uint64(c.below(5)), 1+c.below(3)
	if c.below(2) == 0 {
		x := connected(t, s, now)
		return both{x, &model{
			state: endp.Opening, s: s, f: endp.Facts{Iss: s.Iss, Scale: -1},
			wait: s.Rto, tick: now + s.Rto,
		}}
	}
	f := endp.Facts{Irs: -uint32(c.below(200)), Mss: uint16(c.next()), Scale: c.below(4) - 1, Sack: c.below(2) == 0, Window: uint32(c.next())}
	x := accepted(t, s, f)
	f.Iss, f.Sack = s.Iss, f.Sack && s.Sack
	if s.Scale == -1 {
		f.Scale = -1
	}
	return both{x, &model{state: endp.Open, client: true, heard: true, s: s, f: f, came: map[uint32]byte{}}}
}

// Chance's calls are answered as the model does, and leave what it has.
func TestAsTheModel(t *testing.T) { // P20.1 to P20.7
	stood := [endp.Failed + 1]int{}
	ended, done := 0, 0
	for seed := range chance(2000) {
		c := seed
		now := 1 + c.next()
		b := oddEnd(t, &c, now)
		for range 80 {
			now += uint64(c.below(3) * c.below(4))
			b.step(t, &c, now)
			b.same(t)
			if c.below(20) == 0 {
				b.x = b.x.Copy()
			}
			if t.Failed() {
				t.Fatalf("seed %d", seed)
			}
			if b.x.Done() && b.m.una > 0 {
				done++
			}
		}
		stood[b.m.state]++
		if b.m.ended {
			ended++
		}
	}
	if slices.Min(stood[endp.Open:]) < 100 || ended < 100 || done < 100 {
		t.Errorf("only so many stood at last: %d; %d ended, %d were done", stood, ended, done)
	}
}

// Ends in goroutines of their own answer as they do alone.
func TestAtTheSameTime(t *testing.T) { // R7
	var wg sync.WaitGroup
	got := make([]string, 8)
	for n := range got {
		wg.Go(func() {
			x, _ := endp.Accept(setup(), facts())
			y, told, _ := endp.Connect(setup(), 0)
			for i := range 32 {
				a, _ := x.Take(from(api.Ack, 501+uint32(i), 1001, 9, "a"), 1)
				b, _ := y.Take(from(api.Syn|api.Ack, 7, 1001, 9, ""), 1)
				c, _ := y.Write([]byte("ab"), 2)
				d, _ := y.Take(from(api.Ack, 8, 1003+2*uint32(i), 9, ""), 3)
				told = append(told, slices.Concat(a, b, c, d)...)
			}
			got[n] = text(told) + string(x.Bytes())
		})
	}
	wg.Wait()
	for n := range got {
		if got[n] != got[0] || len(got[n]) < 1000 {
			t.Errorf("of the ends %d something else was told", n)
		}
	}
}
