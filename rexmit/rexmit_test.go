package rexmit_test

import (
	"bytes"
	"math"
	"slices"
	"strings"
	"sync"
	"testing"

	"culvert/api"
	"culvert/rexmit"
)

// chance makes numbers that look like chance, always the same ones.
type chance uint64

func (c *chance) next() uint64 {
	*c = *c*6364136223846793005 + 1442695040888963407
	return uint64(*c) >> 32
}

// below makes a number below n.
func (c *chance) below(n int) int {
	return int(c.next() % uint64(n))
}

// stream makes a stream of so many bytes.
func stream(c chance, long int) []byte {
	out := make([]byte, long)
	for i := range out {
		out[i] = byte(c.next())
	}
	return out
}

// said is a piece, as it is wanted.
type said struct {
	seq  uint32
	data string
}

func saidOf(p rexmit.Piece) said { return said{p.Seq, string(p.Data)} }

// made makes a buffer that may be.
func made(t *testing.T, at, window uint32, rto uint64, tries int) *rexmit.Buffer {
	t.Helper()
	b, e := rexmit.New(at, window, rto, tries)
	if e != api.OK || b == nil {
		t.Fatalf("New(%d, %d, %d, %d) = %v, %d", at, window, rto, tries, b, e)
	}
	return b
}

// writes holds what Write tells against want.
func writes(t *testing.T, b *rexmit.Buffer, data string, now uint64, want api.Errno) {
	t.Helper()
	if e := b.Write([]byte(data), now); e != want {
		t.Errorf("Write(%.40q, %d) = %d, want %d", data, now, e, want)
	}
}

// sends holds what Send tells against want.
func sends(t *testing.T, b *rexmit.Buffer, mss int, want ...said) {
	t.Helper()
	pieces, e := b.Send(mss)
	var got []said
	for _, p := range pieces {
		got = append(got, saidOf(p))
	}
	if !slices.Equal(got, want) || e != api.OK {
		t.Errorf("Send(%d) = %.200v, %d; want %.200v, 0", mss, got, e, want)
	}
}

// sendsNone holds what Send tells against an error.
func sendsNone(t *testing.T, b *rexmit.Buffer, mss int, want api.Errno) {
	t.Helper()
	if got, e := b.Send(mss); len(got) != 0 || e != want {
		t.Errorf("Send(%d) = %v, %d; want none, %d", mss, got, e, want)
	}
}

// acks holds what Acked tells against gone.
func acks(t *testing.T, b *rexmit.Buffer, ack, window uint32, now uint64, gone int) {
	t.Helper()
	if got, e := b.Acked(ack, window, now); got != gone || e != api.OK {
		t.Errorf("Acked(%d, %d, %d) = %d, %d; want %d, 0", ack, window, now, got, e, gone)
	}
}

// acksNone holds what Acked tells against an error.
func acksNone(t *testing.T, b *rexmit.Buffer, ack, window uint32, want api.Errno) {
	t.Helper()
	if got, e := b.Acked(ack, window, 1<<39); got != 0 || e != want {
		t.Errorf("Acked(%d, %d, 2^39) = %d, %d; want 0, %d", ack, window, got, e, want)
	}
}

// ticks holds what Tick tells against a piece.
func ticks(t *testing.T, b *rexmit.Buffer, mss int, now uint64, seq uint32, data string) {
	t.Helper()
	p, is, e := b.Tick(mss, now)
	if p.Seq != seq || string(p.Data) != data || !is || e != api.OK {
		t.Errorf("Tick(%d, %d) = %d %.40q, %t, %d; want %d %.40q, true, 0", mss, now, p.Seq, p.Data, is, e, seq, data)
	}
}

// ticksNone holds what Tick tells against no piece, and an error, or OK.
func ticksNone(t *testing.T, b *rexmit.Buffer, mss int, now uint64, want api.Errno) {
	t.Helper()
	p, is, e := b.Tick(mss, now)
	if p.Seq != 0 || len(p.Data) != 0 || is || e != want {
		t.Errorf("Tick(%d, %d) = %d %.40q, %t, %d; want 0, none, false, %d", mss, now, p.Seq, p.Data, is, e, want)
	}
}

// stands holds b's numbers and window against what is wanted.
func stands(t *testing.T, b *rexmit.Buffer, una, nxt, end, window uint32) {
	t.Helper()
	if b.Una() != una || b.Nxt() != nxt || b.End() != end || b.Window() != window {
		t.Errorf("Una, Nxt, End, Window are %d, %d, %d, %d; want %d, %d, %d, %d",
			b.Una(), b.Nxt(), b.End(), b.Window(), una, nxt, end, window)
	}
}

// alarm holds b's alarm, which is set, against what is wanted.
func alarm(t *testing.T, b *rexmit.Buffer, want uint64) {
	t.Helper()
	if at, set := b.Alarm(); at != want || !set {
		t.Errorf("Alarm() = %d, %t; want %d, true", at, set, want)
	}
}

// noAlarm asks that b's alarm is not set.
func noAlarm(t *testing.T, b *rexmit.Buffer) {
	t.Helper()
	if at, set := b.Alarm(); at != 0 || set {
		t.Errorf("Alarm() = %d, %t; want 0, false", at, set)
	}
}

func TestExamples(t *testing.T) {
	b := made(t, 100, 4, 3, 2)
	writes(t, b, "abcdef", 0, api.OK)
	sends(t, b, 3, said{100, "abc"}, said{103, "d"})
	sends(t, b, 3)
	acks(t, b, 102, 4, 1, 2)
	sends(t, b, 3, said{104, "ef"})
	ticksNone(t, b, 3, 3, api.OK)
	ticks(t, b, 3, 4, 102, "cde")
	ticks(t, b, 3, 10, 102, "cde")
	ticksNone(t, b, 3, 22, api.ErrFull)
}

func TestNew(t *testing.T) { // P19.1
	for _, at := range []uint32{0, 1, 100, 1<<31 - 1, 1 << 31, 1<<32 - 1} {
		for _, window := range []uint32{0, 1, 65535, 65536, 65535 << 14, 1<<30 - 1, 1 << 30} {
			for _, rto := range []uint64{1, 2, 1000, 1<<30 - 1, 1 << 30} {
				for _, tries := range []int{1, 2, 9, 10} {
					b := made(t, at, window, rto, tries)
					stands(t, b, at, at, at, window)
					noAlarm(t, b)
					sends(t, b, 1)
					ticksNone(t, b, 1, 1<<63, api.OK)
				}
			}
		}
	}
}

func TestNewWrong(t *testing.T) { // P19.1: ErrArg
	for _, c := range []struct {
		window uint32
		rto    uint64
		tries  int
	}{
		{0, 0, 1},
		{0, 1<<30 + 1, 1},
		{0, 1 << 32, 1},
		{0, 1<<32 + 1, 1},
		{0, math.MaxUint64, 1},
		{0, 1, 0},
		{0, 1, 11},
		{0, 1, -1},
		{0, 1, 1<<32 + 1},
		{0, 1, math.MaxInt},
		{0, 1, math.MinInt},
		{1<<30 + 1, 1, 1},
		{1 << 31, 1, 1},
		{1<<32 - 1, 1, 1},
		{1<<32 - 1, 0, 0},
	} {
		for _, at := range []uint32{0, 100, 1<<32 - 1} {
			if b, e := rexmit.New(at, c.window, c.rto, c.tries); b != nil || e != api.ErrArg {
				t.Errorf("New(%d, %d, %d, %d) = %v, %d; want nil, 1", at, c.window, c.rto, c.tries, b, e)
			}
		}
	}
}

// underWay makes a buffer from 100 on with "cdefgh" from 102 on, up to 105 of
// which all were sent, a window of 3, and an alarm at 17, the first of two.
func underWay(t *testing.T) *rexmit.Buffer {
	t.Helper()
	b := made(t, 100, 5, 10, 2)
	writes(t, b, "abcdefgh", 0, api.OK)
	sends(t, b, 5, said{100, "abcde"})
	acks(t, b, 102, 3, 7, 2)
	stillUnderWay(t, b)
	return b
}

// stillUnderWay asks that b is as underWay made it.
func stillUnderWay(t *testing.T, b *rexmit.Buffer) {
	t.Helper()
	stands(t, b, 102, 105, 108, 3)
	alarm(t, b, 17)
	c := b.Copy()
	ticksNone(t, c, 9, 16, api.OK)
	ticks(t, c, 9, 17, 102, "cde")
	ticks(t, c, 9, 37, 102, "cde")
	alarm(t, c, 77)
	ticksNone(t, c, 9, 77, api.ErrFull)
	acks(t, c, 102, 99, 80, 0)
	sends(t, c, 9, said{105, "fgh"})
}

// notMade are buffers that New did not make.
func notMade(t *testing.T) map[string]*rexmit.Buffer {
	moved := *underWay(t)
	return map[string]*rexmit.Buffer{"none": nil, "of noughts": {}, "a struct's copy": &moved}
}

func TestNotMade(t *testing.T) { // P19.1: nothing of none; P19.2 to P19.5: ErrNil ahead of all
	for name, b := range notMade(t) {
		t.Run(name, func(t *testing.T) {
			for _, data := range []string{"", "x", strings.Repeat("x", api.MaxSniff+1)} {
				writes(t, b, data, 1, api.ErrNil)
			}
			for _, mss := range []int{-1, 0, 1, api.MaxPacket, api.MaxPacket + 1} {
				sendsNone(t, b, mss, api.ErrNil)
				ticksNone(t, b, mss, 0, api.ErrNil)
				ticksNone(t, b, mss, 1<<39, api.ErrNil)
			}
			for _, ack := range []uint32{0, 1, 101, 102, 103, 1<<32 - 1} {
				acksNone(t, b, ack, 0, api.ErrNil)
				acksNone(t, b, ack, 1<<31, api.ErrNil)
			}
			stands(t, b, 0, 0, 0, 0)
			noAlarm(t, b)
			if c := b.Copy(); c != nil {
				t.Errorf("Copy() = %v, want nil", c)
			}
		})
	}
}

// A struct's copy has no part in the buffer that it was copied of.
func TestNotMadeApart(t *testing.T) { // R3
	b := underWay(t)
	moved := *b
	writes(t, &moved, "XYZ", 8, api.ErrNil)
	acksNone(t, &moved, 103, 9, api.ErrNil)
	sendsNone(t, &moved, 3, api.ErrNil)
	ticksNone(t, &moved, 3, 17, api.ErrNil)
	stillUnderWay(t, b)
}

func TestWrite(t *testing.T) { // P19.2
	b := made(t, 1<<32-2, 100, 5, 3)
	writes(t, b, "", 1, api.OK)
	stands(t, b, 1<<32-2, 1<<32-2, 1<<32-2, 100)
	noAlarm(t, b)
	writes(t, b, "ab", 2, api.OK)
	stands(t, b, 1<<32-2, 1<<32-2, 0, 100)
	alarm(t, b, 7)
	writes(t, b, "", 3, api.OK)
	writes(t, b, "cde", 4, api.OK)
	stands(t, b, 1<<32-2, 1<<32-2, 3, 100)
	alarm(t, b, 7)
	sends(t, b, 4, said{1<<32 - 2, "abcd"}, said{2, "e"})
	writes(t, b, "fg", 5, api.OK)
	stands(t, b, 1<<32-2, 3, 5, 100)
	alarm(t, b, 7)
	sends(t, b, 4, said{3, "fg"})
}

// Where bytes are ahead, what is written begins nothing anew: neither the wait
// nor the count; where none is ahead any more, it does.
func TestWriteBeginsAnew(t *testing.T) { // P19.2
	b := made(t, 100, 50, 5, 2)
	writes(t, b, "ab", 10, api.OK)
	ticks(t, b, 9, 15, 100, "ab")
	writes(t, b, "c", 16, api.OK)
	alarm(t, b, 25)
	ticks(t, b, 9, 25, 100, "abc")
	writes(t, b, "d", 26, api.OK)
	alarm(t, b, 45)
	ticksNone(t, b, 9, 45, api.ErrFull)
	writes(t, b, "e", 46, api.OK)
	ticksNone(t, b, 9, 46, api.ErrFull)
	acks(t, b, 103, 50, 47, 3)
	alarm(t, b, 52)
	sends(t, b, 9, said{103, "de"})
	acks(t, b, 105, 50, 48, 2)
	noAlarm(t, b)
	writes(t, b, "f", 1000, api.OK)
	alarm(t, b, 1005)
	ticks(t, b, 9, 1005, 105, "f")
	alarm(t, b, 1015)
}

func TestWriteLong(t *testing.T) { // P19.2: ErrLong, and nothing changes
	long := string(stream(1, api.MaxSniff))
	for _, first := range []int{0, 1, 100, api.MaxSniff - 1, api.MaxSniff} {
		b := made(t, 7, 1<<30, 5, 1)
		writes(t, b, long[:first], 1, api.OK)
		writes(t, b, long[first:]+"-", 2, api.ErrLong)
		writes(t, b, strings.Repeat("-", 1<<17), 2, api.ErrLong)
		stands(t, b, 7, 7, 7+uint32(first), 1<<30)
		if first == 0 {
			noAlarm(t, b)
		}
		writes(t, b, long[first:], 3, api.OK)
		stands(t, b, 7, 7, 7+api.MaxSniff, 1<<30)
		writes(t, b, "-", 4, api.ErrLong)
		writes(t, b, "", 4, api.OK)
		if first > 0 {
			alarm(t, b, 6)
		} else {
			alarm(t, b, 8)
		}
	}
}

// What is gone leaves room, byte by byte.
func TestWriteBehindGone(t *testing.T) { // P19.2, P19.4
	long := string(stream(2, api.MaxSniff+3))
	b := made(t, 1<<32-5, 10, 5, 1)
	writes(t, b, long[:api.MaxSniff], 1, api.OK)
	sends(t, b, 8, said{1<<32 - 5, long[:8]}, said{3, long[8:10]})
	acks(t, b, 1<<32-2, 1<<30, 2, 3)
	writes(t, b, "----", 3, api.ErrLong)
	writes(t, b, long[api.MaxSniff:], 3, api.OK)
	writes(t, b, "-", 3, api.ErrLong)
	stands(t, b, 1<<32-2, 5, 1<<14-2, 1<<30)
	pieces, e := b.Send(api.MaxPacket)
	var got []byte
	for _, p := range pieces {
		got = append(got, p.Data...)
	}
	if string(got) != long[10:] || e != api.OK {
		t.Errorf("%d bytes were sent, %d; want %d", len(got), e, len(long)-10)
	}
}

// Pieces of all sizes, within all windows, behind what was sent already.
func TestSend(t *testing.T) { // P19.3
	text := string(stream(3, 20))
	for window := range uint32(25) {
		for mss := 1; mss <= 25; mss++ {
			for before := range 10 {
				b := made(t, 1<<32-7, uint32(before), 5, 1)
				writes(t, b, text, 0, api.OK)
				for _, p := range wantSent(text, 0, before, 20) {
					sends(t, b, 20, p)
				}
				acks(t, b, 1<<32-7, window, 0, 0)
				nxt := max(before, min(int(window), 20))
				sends(t, b, mss, wantSent(text, before, nxt, mss)...)
				stands(t, b, 1<<32-7, uint32(nxt)-7, 13, window)
				sends(t, b, mss)
				alarm(t, b, 5)
			}
		}
	}
}

// wantSent cuts text, whose first byte stands at 2^32 - 7, from a place up to
// another one.
func wantSent(text string, from, to, mss int) []said {
	var out []said
	for ; from < to; from += mss {
		out = append(out, said{uint32(from) - 7, text[from:min(from+mss, to)]})
	}
	return out
}

func TestSendGreatest(t *testing.T) { // P19.3
	text := string(stream(4, api.MaxSniff))
	for _, mss := range []int{1, 2, 536, 1460, api.MaxPacket - 1, api.MaxPacket} {
		for _, window := range []uint32{api.MaxSniff - 1, api.MaxSniff, api.MaxSniff + 1, 65535, 65536, 1 << 30} {
			b := made(t, 1<<32-7, window, 1, 1)
			writes(t, b, text, 0, api.OK)
			sends(t, b, mss, wantSent(text, 0, min(int(window), len(text)), mss)...)
			sends(t, b, mss)
		}
	}
}

// The window that comes later holds: a lesser one sends nothing till the numbers
// in it come up to Nxt, which never goes back.
func TestSendOtherWindow(t *testing.T) { // P19.3, P19.4
	b := made(t, 100, 6, 5, 1)
	writes(t, b, "abcdefghij", 0, api.OK)
	sends(t, b, 9, said{100, "abcdef"})
	acks(t, b, 100, 2, 1, 0)
	sends(t, b, 9)
	stands(t, b, 100, 106, 110, 2)
	acks(t, b, 103, 2, 2, 3)
	sends(t, b, 9)
	stands(t, b, 103, 106, 110, 2)
	acks(t, b, 103, 3, 2, 0)
	sends(t, b, 9)
	acks(t, b, 103, 4, 2, 0)
	sends(t, b, 9, said{106, "g"})
	acks(t, b, 107, 0, 3, 4)
	sends(t, b, 9)
	acks(t, b, 107, 1<<30, 3, 0)
	sends(t, b, 9, said{107, "hij"})
	stands(t, b, 107, 110, 110, 1<<30)
}

func TestMssWrong(t *testing.T) { // P19.3, P19.5: ErrArg, and nothing changes
	empty := made(t, 100, 5, 1, 1)
	b := underWay(t)
	acks(t, b, 102, 4, 7, 0)
	for _, mss := range []int{0, -1, -536, api.MaxPacket + 1, 65536, 1<<32 + 1, math.MaxInt, math.MinInt} {
		for _, x := range []*rexmit.Buffer{empty, b} {
			sendsNone(t, x, mss, api.ErrArg)
			for _, now := range []uint64{0, 16, 17, 1000, 1 << 39} {
				ticksNone(t, x, mss, now, api.ErrArg)
			}
		}
		stands(t, b, 102, 105, 108, 4)
		alarm(t, b, 17)
	}
	sends(t, b, api.MaxPacket, said{105, "f"})
	ticks(t, b, api.MaxPacket, 17, 102, "cdef")
	ticks(t, b, 1, 37, 102, "c")
	ticksNone(t, b, 0, 77, api.ErrArg)
	ticksNone(t, b, 1, 77, api.ErrFull)
}

// Each number from Una up to Nxt.
func TestAcked(t *testing.T) { // P19.4
	for _, at := range []uint32{0, 100, 1<<31 - 3, 1<<32 - 3, 1<<32 - 7} {
		for gone := range 7 {
			b := made(t, at, 6, 5, 2)
			writes(t, b, "abcdefgh", 0, api.OK)
			sends(t, b, 4, said{at, "abcd"}, said{at + 4, "ef"})
			acks(t, b, at+uint32(gone), 1<<30, 3, gone)
			stands(t, b, at+uint32(gone), at+6, at+8, 1<<30)
			if gone == 0 {
				alarm(t, b, 5)
			} else {
				alarm(t, b, 8)
			}
			ticks(t, b, 9, 8, at+uint32(gone), "abcdefgh"[gone:])
			stands(t, b, at+uint32(gone), at+8, at+8, 1<<30)
		}
	}
}

// What acknowledges nothing new begins nothing anew.
func TestAckedAgain(t *testing.T) { // P19.4
	b := made(t, 100, 6, 5, 2)
	acks(t, b, 100, 7, 0, 0)
	stands(t, b, 100, 100, 100, 7)
	noAlarm(t, b)
	writes(t, b, "abcd", 0, api.OK)
	sends(t, b, 9, said{100, "abcd"})
	ticks(t, b, 9, 5, 100, "abcd")
	acks(t, b, 100, 3, 6, 0)
	alarm(t, b, 15)
	ticks(t, b, 9, 15, 100, "abc")
	acks(t, b, 100, 2, 16, 0)
	alarm(t, b, 35)
	ticksNone(t, b, 9, 35, api.ErrFull)
	acks(t, b, 100, 1, 36, 0)
	ticksNone(t, b, 9, 36, api.ErrFull)
	stands(t, b, 100, 104, 104, 1)
}

// Something new begins anew: the wait is the first one, the count is 0.
func TestAckedBeginsAnew(t *testing.T) { // P19.4
	b := made(t, 100, 9, 5, 2)
	writes(t, b, "abcd", 0, api.OK)
	ticks(t, b, 9, 5, 100, "abcd")
	ticks(t, b, 9, 15, 100, "abcd")
	acks(t, b, 101, 9, 20, 1)
	alarm(t, b, 25)
	ticks(t, b, 9, 25, 101, "bcd")
	alarm(t, b, 35)
	ticks(t, b, 9, 35, 101, "bcd")
	alarm(t, b, 55)
	ticksNone(t, b, 9, 55, api.ErrFull)
	acks(t, b, 103, 9, 56, 2)
	alarm(t, b, 61)
	ticks(t, b, 9, 61, 103, "d")
	acks(t, b, 104, 9, 62, 1)
	noAlarm(t, b)
	ticksNone(t, b, 9, 1<<39, api.OK)
	stands(t, b, 104, 104, 104, 9)
}

func TestAckedWrong(t *testing.T) { // P19.4: ErrArg, and nothing changes
	b := underWay(t)
	for _, ack := range []uint32{0, 100, 101, 106, 107, 108, 109, 102 + 1<<31, 103 + 1<<31, 105 + 1<<31, 1<<32 - 1} {
		acksNone(t, b, ack, 3, api.ErrArg)
		acksNone(t, b, ack, 1<<31, api.ErrArg)
		stillUnderWay(t, b)
	}
	for _, window := range []uint32{1<<30 + 1, 1 << 31, 1<<32 - 1} {
		for ack := range uint32(4) {
			acksNone(t, b, 102+ack, window, api.ErrArg)
			stillUnderWay(t, b)
		}
	}
	empty := made(t, 0, 3, 1, 1)
	for _, ack := range []uint32{1, 1<<32 - 1, 1 << 31} {
		acksNone(t, empty, ack, 9, api.ErrArg)
		stands(t, empty, 0, 0, 0, 3)
	}
}

// A piece of all sizes, with all windows, ahead of or behind Nxt.
func TestTick(t *testing.T) { // P19.5, P19.7
	text := string(stream(5, 12))
	at := uint32(1<<32 - 4)
	for sent := range 13 {
		for window := range uint32(16) {
			for mss := 1; mss <= 16; mss++ {
				b := made(t, at, uint32(sent), 5, 1)
				writes(t, b, text, 0, api.OK)
				b.Send(api.MaxPacket)
				acks(t, b, at, window, 0, 0)
				long := max(1, min(mss, len(text), int(window)))
				ticks(t, b, mss, 5, at, text[:long])
				stands(t, b, at, at+uint32(max(sent, long)), at+12, window)
				alarm(t, b, 15)
			}
		}
	}
}

func TestTickGreatest(t *testing.T) { // P19.5
	text := string(stream(6, api.MaxSniff))
	for _, mss := range []int{1, 536, 1460, api.MaxPacket} {
		for _, window := range []uint32{0, 1, 535, api.MaxPacket, 65536, 1 << 30} {
			b := made(t, 9, window, 1<<30, 10)
			writes(t, b, text, 0, api.OK)
			ticks(t, b, mss, 1<<30, 9, text[:max(1, min(mss, int(window)))])
		}
	}
}

// A byte beyond the window goes by Tick alone, and may be acknowledged.
func TestTickNoWindow(t *testing.T) { // P19.5, P19.7
	b := made(t, 100, 0, 5, 3)
	writes(t, b, "abc", 0, api.OK)
	sends(t, b, 9)
	acksNone(t, b, 101, 0, api.ErrArg)
	ticksNone(t, b, 9, 4, api.OK)
	ticks(t, b, 9, 5, 100, "a")
	stands(t, b, 100, 101, 103, 0)
	sends(t, b, 9)
	ticks(t, b, 9, 15, 100, "a")
	stands(t, b, 100, 101, 103, 0)
	acks(t, b, 101, 0, 16, 1)
	sends(t, b, 9)
	ticks(t, b, 9, 21, 101, "b")
	acks(t, b, 101, 5, 22, 0)
	sends(t, b, 9, said{102, "c"})
	stands(t, b, 101, 103, 103, 5)
}

// Ahead of the alarm nothing is told; at it, and behind it, once.
func TestTickInTime(t *testing.T) { // P19.5
	for _, late := range []uint64{0, 1, 2, 100, 1 << 39} {
		b := made(t, 100, 9, 5, 3)
		writes(t, b, "ab", 20, api.OK)
		for _, now := range []uint64{0, 1, 20, 23, 24} {
			ticksNone(t, b, 9, now, api.OK)
			alarm(t, b, 25)
		}
		now := 25 + late
		ticks(t, b, 9, now, 100, "ab")
		alarm(t, b, now+10)
		ticksNone(t, b, 9, 0, api.OK)
		ticksNone(t, b, 9, now, api.OK)
		ticksNone(t, b, 9, now+9, api.OK)
		ticks(t, b, 9, now+11, 100, "ab")
		alarm(t, b, now+31)
	}
}

func TestTickFull(t *testing.T) { // P19.5: ErrFull, and nothing changes
	b := made(t, 100, 9, 5, 1)
	writes(t, b, "abcdefghijkl", 0, api.OK)
	ticks(t, b, 3, 5, 100, "abc")
	ticksNone(t, b, 3, 14, api.OK)
	for _, now := range []uint64{15, 16, 1000, 1 << 39, 15} {
		ticksNone(t, b, 3, now, api.ErrFull)
		stands(t, b, 100, 103, 112, 9)
		alarm(t, b, 15)
	}
	ticksNone(t, b, 3, 14, api.OK)
	sends(t, b, 9, said{103, "defghi"})
	alarm(t, b, 15)
	acks(t, b, 103, 9, 100, 3)
	ticksNone(t, b, 3, 104, api.OK)
	ticks(t, b, 3, 105, 103, "def")
	ticksNone(t, b, 3, 115, api.ErrFull)
}

// Without an Acked, the alarms come behind the beginning as the chapter says.
func TestAlarmsInARow(t *testing.T) { // P19.8
	for _, rto := range []uint64{1, 2, 3, 1000, 1 << 30} {
		for tries := 1; tries <= 10; tries++ {
			for _, begin := range []uint64{0, 1, 77, 1 << 39} {
				b := made(t, 100, 9, rto, tries)
				writes(t, b, "ab", begin, api.OK)
				b.Send(9)
				for n := 1; n <= tries; n++ {
					now := begin + rto*(1<<n-1)
					alarm(t, b, now)
					ticksNone(t, b, 9, now-1, api.OK)
					ticks(t, b, 9, now, 100, "ab")
				}
				now := begin + rto*(1<<(tries+1)-1)
				ticksNone(t, b, 9, now-1, api.OK)
				ticksNone(t, b, 9, now, api.ErrFull)
				alarm(t, b, now)
			}
		}
	}
}

// receiver is the other end: the bytes that came, by their numbers.
type receiver struct {
	next uint32
	came map[uint32]byte
	got  []byte
}

// take takes a piece in, and all that is in order then.
func (r *receiver) take(t *testing.T, p rexmit.Piece) {
	for i, x := range p.Data {
		at := p.Seq + uint32(i)
		if was, is := r.came[at]; is && was != x {
			t.Fatalf("at %d stood %d, and now %d", at, was, x)
		}
		r.came[at] = x
	}
	for {
		x, is := r.came[r.next]
		if !is {
			return
		}
		r.got = append(r.got, x)
		r.next++
	}
}

// Many pieces and most answers are lost, but all comes, each byte at its number.
func TestUntilAcknowledged(t *testing.T) { // P19.6, P19.7
	for seed := range chance(60) {
		c := seed
		text := stream(seed, 1+c.below(3000))
		at := -uint32(c.below(2000))
		b := made(t, at, uint32(c.below(200)), 1+uint64(c.below(5)), 10)
		r := &receiver{next: at, came: map[uint32]byte{}}
		wrote := 0
		now := uint64(0)
		for ; len(r.got) < len(text) || b.End() != b.Una(); now++ {
			if now > 1<<20 {
				t.Fatalf("seed %d: %d of %d bytes came", seed, len(r.got), len(text))
			}
			more := text[wrote:min(len(text), wrote+c.below(50))]
			if b.Write(more, now) == api.OK {
				wrote += len(more)
			}
			mss := 1 + c.below(100)
			pieces, _ := b.Send(mss)
			p, is, e := b.Tick(mss, now)
			if e != api.OK {
				t.Fatalf("seed %d: at %d Tick tells %d", seed, now, e)
			}
			if is {
				pieces = append(pieces, p)
			}
			for _, p := range pieces {
				if c.below(3) > 0 {
					r.take(t, p)
				}
			}
			if c.below(3) == 0 {
				b.Acked(r.next, uint32(c.below(300)), now)
			}
		}
		if !bytes.Equal(r.got, text) {
			t.Errorf("seed %d: %d bytes came, want %d", seed, len(r.got), len(text))
		}
	}
}

// A byte that is never acknowledged is told again, till the count is Tries.
func TestTillTries(t *testing.T) { // P19.6
	for tries := 1; tries <= 10; tries++ {
		b := made(t, 100, 9, 3, tries)
		writes(t, b, "ab", 0, api.OK)
		sends(t, b, 9, said{100, "ab"})
		told := 0
		for now := range uint64(3 * 1 << (tries + 1)) {
			p, is, e := b.Tick(9, now)
			if is && saidOf(p) == (said{100, "ab"}) {
				told++
			}
			if (e == api.ErrFull) != (now >= 3*(1<<(tries+1)-1)) {
				t.Fatalf("at %d of %d tries Tick tells %d", now, tries, e)
			}
		}
		if told != tries {
			t.Errorf("it was told %d times, want %d", told, tries)
		}
	}
}

// model is a second working of the chapter's words: all that was ever written,
// by places from 0 on.
type model struct {
	at              uint32
	all             []byte
	una, nxt        int
	window          uint32
	rto, wait, tick uint64
	tries, count    int
}

func (m *model) anew(now uint64) {
	m.wait, m.count, m.tick = m.rto, 0, now+m.rto
}

func (m *model) write(data []byte, now uint64) api.Errno {
	if len(m.all)-m.una+len(data) > api.MaxSniff {
		return api.ErrLong
	}
	before := len(m.all)
	m.all = append(m.all, data...)
	if before == m.una && len(m.all) > before {
		m.anew(now)
	}
	return api.OK
}

// tell tells the bytes from a place up to another one.
func (m *model) tell(from, to int) said {
	m.nxt = max(m.nxt, to)
	return said{m.at + uint32(from), string(m.all[from:to])}
}

func (m *model) send(mss int) (out []said, e api.Errno) {
	if mss < 1 || mss > api.MaxPacket {
		return nil, api.ErrArg
	}
	for m.nxt < len(m.all) && m.nxt-m.una < int(m.window) {
		to := m.nxt
		for to < len(m.all) && to-m.una < int(m.window) && to-m.nxt < mss {
			to++
		}
		out = append(out, m.tell(m.nxt, to))
	}
	return out, api.OK
}

func (m *model) acked(ack, window uint32, now uint64) (int, api.Errno) {
	if window > 1<<30 {
		return 0, api.ErrArg
	}
	for to := m.una; to <= m.nxt; to++ {
		if m.at+uint32(to) != ack {
			continue
		}
		gone := to - m.una
		m.una, m.window = to, window
		if gone != 0 {
			m.anew(now)
		}
		return gone, api.OK
	}
	return 0, api.ErrArg
}

func (m *model) alarm() (uint64, bool) {
	if m.una == len(m.all) {
		return 0, false
	}
	return m.tick, true
}

func (m *model) ticked(mss int, now uint64) (said, bool, api.Errno) {
	if mss < 1 || mss > api.MaxPacket {
		return said{}, false, api.ErrArg
	}
	if at, set := m.alarm(); !set || at > now {
		return said{}, false, api.OK
	}
	if m.count == m.tries {
		return said{}, false, api.ErrFull
	}
	m.count++
	m.wait += m.wait
	m.tick = now + m.wait
	to := m.una + 1
	for to < len(m.all) && to-m.una < mss && to-m.una < int(m.window) {
		to++
	}
	return m.tell(m.una, to), true, api.OK
}

// both is a buffer and its model, and how many calls told what is seldom.
type both struct {
	b                  *rexmit.Buffer
	m                  *model
	full, long, beyond int
}

// same holds all that the buffer tells of itself against the model.
func (x *both) same(t *testing.T) {
	t.Helper()
	number := func(place int) uint32 { return x.m.at + uint32(place) }
	stands(t, x.b, number(x.m.una), number(x.m.nxt), number(len(x.m.all)), x.m.window)
	at, set := x.b.Alarm()
	if wantAt, wantSet := x.m.alarm(); at != wantAt || set != wantSet {
		t.Errorf("Alarm() = %d, %t; want %d, %t", at, set, wantAt, wantSet)
	}
}

// near makes a number near the ones that stand, or, seldom, anywhere.
func near(c *chance, m *model) uint32 {
	switch c.below(12) {
	case 0:
		return uint32(c.next())
	case 1:
		return m.at + uint32(m.una) - 1
	case 2:
		return m.at + uint32(m.nxt) + 1
	}
	return m.at + uint32(m.una+c.below(m.nxt-m.una+1))
}

// oddMss makes mostly a size that may be.
func oddMss(c *chance) int {
	if c.below(30) == 0 {
		return []int{0, -1, api.MaxPacket + 1}[c.below(3)]
	}
	return 1 + c.below(40)
}

// step lets both do one thing by chance, and holds their answers against each
// other.
func (x *both) step(t *testing.T, c *chance, now uint64) {
	t.Helper()
	switch c.below(5) {
	case 0:
		data := stream(chance(c.next()), c.below(60))
		if c.below(200) == 0 {
			data = make([]byte, api.MaxSniff-c.below(100))
		}
		want := x.m.write(data, now)
		writes(t, x.b, string(data), now, want)
		x.long += int(want / api.ErrLong)
	case 1:
		mss := oddMss(c)
		if want, e := x.m.send(mss); e == api.OK {
			sends(t, x.b, mss, want...)
		} else {
			sendsNone(t, x.b, mss, e)
		}
	case 2:
		ack, window := near(c, x.m), []uint32{0, 1, 30, 100, 1 << 30, 1<<30 + 1}[c.below(6)]
		want, wantE := x.m.acked(ack, window, now)
		if got, e := x.b.Acked(ack, window, now); got != want || e != wantE {
			t.Errorf("Acked(%d, %d, %d) = %d, %d; want %d, %d", ack, window, now, got, e, want, wantE)
		}
	default:
		mss := oddMss(c)
		if want, is, e := x.m.ticked(mss, now); is {
			ticks(t, x.b, mss, now, want.seq, want.data)
		} else {
			ticksNone(t, x.b, mss, now, e)
			x.full += int(e / api.ErrFull)
		}
	}
	if x.m.nxt-x.m.una > int(x.m.window) {
		x.beyond++
	}
}

// Chance's calls are answered as the model does, and leave what it has.
func TestAsTheModel(t *testing.T) { // P19.1 to P19.8
	full, long, beyond := 0, 0, 0
	for seed := range chance(400) {
		c := seed
		at := uint32(c.next())
		if seed%3 == 0 {
			at = -uint32(c.below(500))
		}
		window, rto, tries := uint32(c.below(100)), 1+uint64(c.below(6)), 1+c.below(10)
		x := &both{
			b: made(t, at, window, rto, tries),
			m: &model{at: at, window: window, rto: rto, tries: tries},
		}
		now := c.next()
		for range 300 {
			now += uint64(c.below(4) * c.below(4))
			x.step(t, &c, now)
			x.same(t)
			if c.below(20) == 0 {
				x.b = x.b.Copy()
			}
			if t.Failed() {
				t.Fatalf("seed %d", seed)
			}
		}
		full, long, beyond = full+x.full, long+x.long, beyond+x.beyond
	}
	if full < 100 || long < 20 || beyond < 100 {
		t.Errorf("only %d were full, %d too long, %d beyond the window", full, long, beyond)
	}
}

// Each of two lives on as if there were no other.
func TestCopyApart(t *testing.T) { // P19.1
	b := underWay(t)
	c := b.Copy()
	writes(t, b, "ijk", 8, api.OK)
	writes(t, c, "IJKL", 8, api.OK)
	stands(t, b, 102, 105, 111, 3)
	stands(t, c, 102, 105, 112, 3)
	acks(t, b, 105, 1000, 9, 3)
	alarm(t, b, 19)
	alarm(t, c, 17)
	ticks(t, c, 9, 17, 102, "cde")
	alarm(t, b, 19)
	alarm(t, c, 37)
	sends(t, b, 9, said{105, "fghijk"})
	stands(t, c, 102, 105, 112, 3)
	acks(t, c, 103, 1000, 18, 1)
	sends(t, c, 9, said{105, "fghIJKL"})
	ticks(t, b, 9, 19, 105, "fghijk")
	ticks(t, c, 9, 28, 103, "defghIJKL")
}

// What is written to one, behind the same bytes, does not stand in the other.
func TestCopyWritten(t *testing.T) { // P19.1, P19.2
	for long := range 70 {
		text := string(stream(8, long))
		b := made(t, 100, 1000, 5, 1)
		writes(t, b, text, 0, api.OK)
		c := b.Copy()
		writes(t, b, "b", 1, api.OK)
		writes(t, c, "c", 1, api.OK)
		sends(t, b, 1000, said{100, text + "b"})
		sends(t, c, 1000, said{100, text + "c"})
	}
}

func TestCopyFull(t *testing.T) { // P19.1, P19.5
	b := made(t, 100, 9, 5, 1)
	noAlarm(t, b.Copy())
	stands(t, b.Copy(), 100, 100, 100, 9)
	writes(t, b, "ab", 0, api.OK)
	ticks(t, b, 9, 5, 100, "ab")
	c := b.Copy()
	ticksNone(t, c, 9, 15, api.ErrFull)
	acks(t, c, 101, 9, 16, 1)
	ticks(t, c, 9, 21, 101, "b")
	ticksNone(t, b, 9, 21, api.ErrFull)
	acks(t, b, 102, 9, 22, 2)
	ticksNone(t, c, 9, 31, api.ErrFull)
}

// What is handed in is only read, and not kept.
func TestWriteKeepsNothing(t *testing.T) { // R3
	b := made(t, 100, 50, 5, 3)
	data := append(make([]byte, 0, 20), "abcdefgh"...)
	writes(t, b, "", 0, api.OK)
	for range 2 {
		if e := b.Write(data[:4], 0); e != api.OK || string(data) != "abcdefgh" {
			t.Fatalf("Write is %d, data %q", e, data)
		}
	}
	clear(data)
	sends(t, b, 9, said{100, "abcdabcd"})
	ticks(t, b, 9, 5, 100, "abcdabcd")
}

// What is answered is new memory.
func TestAnswersNewMemory(t *testing.T) { // R3
	b := made(t, 100, 6, 5, 3)
	writes(t, b, "abcdefgh", 0, api.OK)
	pieces, _ := b.Send(2)
	if len(pieces) != 3 {
		t.Fatalf("there are %d pieces", len(pieces))
	}
	clear(pieces[0].Data)
	_ = append(pieces[0].Data, "----------"...)
	if string(pieces[1].Data) != "cd" || string(pieces[2].Data) != "ef" {
		t.Errorf("the others became %q, %q", pieces[1].Data, pieces[2].Data)
	}
	clear(pieces[1].Data)
	p, _, _ := b.Tick(6, 5)
	if string(p.Data) != "abcdef" {
		t.Fatalf("Tick tells %q", p.Data)
	}
	clear(p.Data)
	_ = append(p.Data, "----------"...)
	acks(t, b, 102, 50, 6, 2)
	sends(t, b, 9, said{106, "gh"})
	ticks(t, b, 9, 11, 102, "cdefgh")
}

// Buffers in goroutines of their own answer as they do alone.
func TestAtTheSameTime(t *testing.T) { // R7
	text := stream(7, 2000)
	var wg sync.WaitGroup
	got := make([][]byte, 8)
	for n := range got {
		wg.Go(func() {
			c := chance(n)
			b, _ := rexmit.New(uint32(n), 50, 2, 10)
			for wrote, now := 0, uint64(0); len(got[n]) < len(text) && now < 1<<16; now++ {
				more := text[wrote:min(len(text), wrote+c.below(60))]
				b.Write(more, now)
				wrote += len(more)
				pieces, _ := b.Send(1 + c.below(20))
				for _, p := range pieces {
					got[n] = append(got[n], p.Data...)
				}
				b.Acked(b.Nxt(), 50, now)
			}
		})
	}
	wg.Wait()
	for n, g := range got {
		if !bytes.Equal(g, text) {
			t.Errorf("of the buffer %d something else was told", n)
		}
	}
}
