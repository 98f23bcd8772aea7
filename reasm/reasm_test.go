package reasm_test

import (
	"bytes"
	"math"
	"slices"
	"strconv"
	"strings"
	"sync"
	"testing"

	"culvert/api"
	"culvert/reasm"
)

// chance makes numbers that look like chance, always the same ones.
type chance uint64

func (c *chance) next() uint64 {
	*c = *c*6364136223846793005 + 1442695040888963407
	return uint64(*c) >> 32
}

// below makes a number below n.
func (c *chance) below(n int) int {
	return int(c.next() % uint64(n))
}

// piece is where a piece begins, and the number behind it.
type piece = [2]uint32

// made makes a buffer that may be.
func made(t *testing.T, next uint32, room int) *reasm.Buffer {
	t.Helper()
	b, e := reasm.New(next, room)
	if e != api.OK || b == nil {
		t.Fatalf("New(%d, %d) = %v, %d", next, room, b, e)
	}
	return b
}

// puts holds what Put tells against fresh.
func puts(t *testing.T, b *reasm.Buffer, at uint32, data string, fresh int) {
	t.Helper()
	if got, e := b.Put(at, []byte(data)); got != fresh || e != api.OK {
		t.Errorf("Put(%d, %.40q) = %d, %d; want %d, 0", at, data, got, e, fresh)
	}
}

// putsNone holds what Put tells against an error.
func putsNone(t *testing.T, b *reasm.Buffer, at uint32, data string, want api.Errno) {
	t.Helper()
	if got, e := b.Put(at, []byte(data)); got != 0 || e != want {
		t.Errorf("Put(%d, %.40q) = %d, %d; want 0, %d", at, data, got, e, want)
	}
}

// takes holds what Take tells against data.
func takes(t *testing.T, b *reasm.Buffer, data string) {
	t.Helper()
	if got := b.Take(); string(got) != data {
		t.Errorf("Take() = %.80q, want %.80q", got, data)
	}
}

// stands holds all that b tells of itself against what is wanted.
func stands(t *testing.T, b *reasm.Buffer, next uint32, room, ready int, held ...piece) {
	t.Helper()
	if b.Next() != next || b.Room() != room || b.Ready() != ready || !slices.Equal(b.Held(), held) {
		t.Errorf("Next, Room, Ready, Held are %d, %d, %d, %d; want %d, %d, %d, %d",
			b.Next(), b.Room(), b.Ready(), b.Held(), next, room, ready, held)
	}
}

func TestExamples(t *testing.T) {
	b := made(t, 4294967294, 10)
	puts(t, b, 0, "cd", 2)
	stands(t, b, 4294967294, 10, 0, piece{0, 2})
	puts(t, b, 4294967293, "Xab", 2)
	takes(t, b, "abcd")
	stands(t, b, 2, 6, 0)
	puts(t, b, 2, "0123456789", 6)
	takes(t, b, "012345")
	stands(t, b, 8, 0, 0)
}

func TestNew(t *testing.T) { // P18.1
	for _, next := range []uint32{0, 1, 100, 1<<31 - 1, 1 << 31, 1<<32 - 2, 1<<32 - 1} {
		for _, room := range []int{0, 1, 2, 255, 256, api.MaxSniff - 1, api.MaxSniff} {
			b := made(t, next, room)
			stands(t, b, next, room, 0)
			takes(t, b, "")
			stands(t, b, next, room, 0)
		}
	}
}

func TestNewWrong(t *testing.T) { // P18.1: ErrArg
	for _, room := range []int{-1, -2, -api.MaxSniff, api.MaxSniff + 1, 1 << 16, 1 << 32, math.MaxInt, math.MinInt} {
		for _, next := range []uint32{0, 5, 1<<32 - 1} {
			if b, e := reasm.New(next, room); b != nil || e != api.ErrArg {
				t.Errorf("New(%d, %d) = %v, %d; want nil, 1", next, room, b, e)
			}
		}
	}
}

// notMade are buffers that New did not make.
func notMade(t *testing.T) map[string]*reasm.Buffer {
	b := made(t, 100, 20)
	puts(t, b, 100, "ab", 2)
	puts(t, b, 105, "fg", 2)
	moved := *b
	return map[string]*reasm.Buffer{"none": nil, "of noughts": {}, "a struct's copy": &moved}
}

func TestNotMade(t *testing.T) { // P18.1 to P18.3: ErrNil, and nothing of none
	for name, b := range notMade(t) {
		t.Run(name, func(t *testing.T) {
			for _, data := range []string{"", "x", "abcdefgh", strings.Repeat("x", 1<<15)} {
				for _, at := range []uint32{0, 1, 99, 100, 102, 1<<32 - 1} {
					putsNone(t, b, at, data, api.ErrNil)
				}
			}
			stands(t, b, 0, 0, 0)
			takes(t, b, "")
			stands(t, b, 0, 0, 0)
			if c := b.Copy(); c != nil {
				t.Errorf("Copy() = %v, want nil", c)
			}
		})
	}
}

// A struct's copy has no part in the buffer that it was copied of.
func TestNotMadeApart(t *testing.T) { // R3
	b := made(t, 100, 20)
	puts(t, b, 100, "ab", 2)
	puts(t, b, 105, "fg", 2)
	moved := *b
	putsNone(t, &moved, 102, "cde", api.ErrNil)
	takes(t, &moved, "")
	stands(t, b, 100, 20, 2, piece{105, 107})
	takes(t, b, "ab")
	stands(t, &moved, 0, 0, 0)
}

// Data is put where a piece stands from 110 up to 114, in each place beside it.
func TestPutBesideOne(t *testing.T) { // P18.2: what is there stays
	for _, c := range []struct {
		at    uint32
		data  string
		fresh int
		held  piece
		all   string // behind ten bytes from 100 on
	}{
		{110, "----", 0, piece{110, 114}, "klmn"},
		{111, "--", 0, piece{110, 114}, "klmn"},
		{110, "-", 0, piece{110, 114}, "klmn"},
		{113, "-", 0, piece{110, 114}, "klmn"},
		{113, "-o", 1, piece{110, 115}, "klmno"},
		{114, "op", 2, piece{110, 116}, "klmnop"},
		{112, "--opq", 3, piece{110, 117}, "klmnopq"},
		{110, "----o", 1, piece{110, 115}, "klmno"},
		{109, "j", 1, piece{109, 114}, "klmn"},
		{108, "ij--", 2, piece{108, 114}, "klmn"},
		{108, "ij----", 2, piece{108, 114}, "klmn"},
		{108, "ij----op", 4, piece{108, 116}, "klmnop"},
	} {
		b := made(t, 100, 30)
		puts(t, b, 110, "klmn", 4)
		puts(t, b, c.at, c.data, c.fresh)
		stands(t, b, 100, 30, 0, c.held)
		puts(t, b, 100, "abcdefghij", 10-max(0, 110-int(c.held[0])))
		stands(t, b, 100, 30, 10+len(c.all))
		takes(t, b, "abcdefghij"+c.all)
		stands(t, b, 110+uint32(len(c.all)), 20-len(c.all), 0)
	}
}

// Pieces that do not touch stay apart by a single byte.
func TestPutApart(t *testing.T) { // P18.1, P18.2
	b := made(t, 100, 30)
	puts(t, b, 110, "k", 1)
	puts(t, b, 112, "m", 1)
	puts(t, b, 108, "i", 1)
	stands(t, b, 100, 30, 0, piece{108, 109}, piece{110, 111}, piece{112, 113})
	puts(t, b, 111, "l", 1)
	stands(t, b, 100, 30, 0, piece{108, 109}, piece{110, 113})
	puts(t, b, 101, "b", 1)
	stands(t, b, 100, 30, 0, piece{101, 102}, piece{108, 109}, piece{110, 113})
	puts(t, b, 100, "a", 1)
	stands(t, b, 100, 30, 2, piece{108, 109}, piece{110, 113})
	puts(t, b, 107, "h-j---n", 3)
	stands(t, b, 100, 30, 2, piece{107, 114})
	puts(t, b, 98, "--ABcdefgh", 5)
	stands(t, b, 100, 30, 14)
	takes(t, b, "abcdefghijklmn")
	stands(t, b, 114, 16, 0)
}

// Only what stands from Next on, Room long, is laid.
func TestPutOutside(t *testing.T) { // P18.2, P18.5
	for _, next := range []uint32{100, 0, 1, 1<<32 - 1, 1<<32 - 3, 1<<31 - 2, 1 << 31} {
		b := made(t, next, 5)
		puts(t, b, next-1, "-", 0)
		puts(t, b, next-4, "----", 0)
		puts(t, b, next+5, "-", 0)
		puts(t, b, next+6, "--", 0)
		puts(t, b, next+1<<31-1, "---", 0)
		puts(t, b, next+1<<31, "---", 0)
		puts(t, b, next-1<<30, "---", 0)
		stands(t, b, next, 5, 0)
		puts(t, b, next+4, "e--", 1)
		stands(t, b, next, 5, 0, piece{next + 4, next + 5})
		puts(t, b, next-3, "---a", 1)
		stands(t, b, next, 5, 1, piece{next + 4, next + 5})
		puts(t, b, next-2, "---bcd---", 3)
		stands(t, b, next, 5, 5)
		takes(t, b, "abcde")
		stands(t, b, next+5, 0, 0)
		puts(t, b, next+5, "-", 0)
		puts(t, b, next, "-----------", 0)
		takes(t, b, "")
		stands(t, b, next+5, 0, 0)
	}
}

// Behind a Take the stretch begins at the new Next, and ends where it did.
func TestPutBehindTake(t *testing.T) { // P18.2, P18.3, P18.5
	b := made(t, 1<<32-4, 10)
	puts(t, b, 1<<32-4, "abc", 3)
	puts(t, b, 1, "f", 1)
	takes(t, b, "abc")
	stands(t, b, 1<<32-1, 7, 0, piece{1, 2})
	puts(t, b, 1<<32-4, "---", 0)
	puts(t, b, 1<<32-4, "---d", 1)
	stands(t, b, 1<<32-1, 7, 1, piece{1, 2})
	puts(t, b, 5, "j-", 1)
	puts(t, b, 6, "-", 0)
	stands(t, b, 1<<32-1, 7, 1, piece{1, 2}, piece{5, 6})
	takes(t, b, "d")
	puts(t, b, 0, "e", 1)
	takes(t, b, "ef")
	stands(t, b, 2, 4, 0, piece{5, 6})
	puts(t, b, 2, "ghijklmn", 3)
	takes(t, b, "ghij")
	stands(t, b, 6, 0, 0)
}

func TestPutNothing(t *testing.T) { // P18.2, R4
	b := made(t, 100, 5)
	puts(t, b, 102, "c", 1)
	for _, at := range []uint32{0, 99, 100, 101, 102, 103, 104, 105, 1<<32 - 1} {
		for _, data := range [][]byte{nil, {}} {
			if n, e := b.Put(at, data); n != 0 || e != api.OK {
				t.Errorf("Put(%d, nothing) = %d, %d", at, n, e)
			}
		}
	}
	stands(t, b, 100, 5, 0, piece{102, 103})
}

func TestNoRoom(t *testing.T) { // P18.2, P18.5
	b := made(t, 7, 0)
	for _, data := range []string{"", "a", "abc"} {
		for _, at := range []uint32{5, 6, 7, 8, 1 << 31} {
			puts(t, b, at, data, 0)
		}
	}
	takes(t, b, "")
	stands(t, b, 7, 0, 0)
}

// full is a buffer from 1000 on, 100 long, with MaxHoles pieces of two bytes
// that do not begin at Next: the first at 1004, each one 5 ahead of the last.
func full(t *testing.T) (*reasm.Buffer, []piece) {
	t.Helper()
	b := made(t, 1000, 100)
	var held []piece
	for n := range uint32(api.MaxHoles) {
		puts(t, b, 1004+5*n, "xy", 2)
		held = append(held, piece{1004 + 5*n, 1006 + 5*n})
	}
	stands(t, b, 1000, 100, 0, held...)
	return b, held
}

// One piece more has no room, wherever it would stand.
func TestFull(t *testing.T) { // P18.2: ErrFull, and nothing changes
	b, held := full(t)
	for _, c := range []struct {
		at   uint32
		data string
	}{
		{1001, "-"}, {1002, "-"}, {1001, "--"}, {1007, "-"}, {1032, "-"}, {1077, "-"}, {1082, "-"}, {1099, "-"}, {1099, "---"}, {1082, strings.Repeat("-", 50)},
	} {
		putsNone(t, b, c.at, c.data, api.ErrFull)
		stands(t, b, 1000, 100, 0, held...)
	}
	puts(t, b, 1000, "abcd", 4)
	takes(t, b, "abcdxy")
	puts(t, b, 1006, "efg", 3)
	takes(t, b, "efgxy")
}

// What makes no piece more has room, though there are MaxHoles of them.
func TestFullButNoMore(t *testing.T) { // P18.2
	for _, c := range []struct {
		at    uint32
		data  string
		fresh int
		ready int
		held  func(held []piece) []piece // what becomes of them
	}{
		{1000, "-", 1, 1, nil},
		{1000, "---", 3, 3, nil},
		{990, strings.Repeat("-", 11), 1, 1, nil},
		{900, strings.Repeat("-", 300), 68, 100, func([]piece) []piece { return nil }},
		{1000, "----", 4, 6, func(h []piece) []piece { return h[1:] }},
		{1003, "-", 1, 0, func(h []piece) []piece { h[0][0]--; return h }},
		{1001, "---", 3, 0, func(h []piece) []piece { h[0][0] = 1001; return h }},
		{1006, "-", 1, 0, func(h []piece) []piece { h[0][1]++; return h }},
		{1006, "---", 3, 0, func(h []piece) []piece { h[1][0] = 1004; return h[1:] }},
		{1004, "--", 0, 0, nil},
		{1081, strings.Repeat("-", 50), 19, 0, func(h []piece) []piece { h[15][1] = 1100; return h }},
		{1001, strings.Repeat("-", 99), 67, 0, func([]piece) []piece { return []piece{{1001, 1100}} }},
		{1100, "-", 0, 0, nil},
		{999, "-", 0, 0, nil},
		{1008, "", 0, 0, nil},
	} {
		b, held := full(t)
		puts(t, b, c.at, c.data, c.fresh)
		if c.held != nil {
			held = c.held(held)
		}
		stands(t, b, 1000, 100, c.ready, held...)
	}
}

// A piece at Next is not one of those that are counted; nor is one that went.
func TestFullAtNext(t *testing.T) { // P18.2, P18.3
	b, held := full(t)
	puts(t, b, 1000, "ab", 2)
	stands(t, b, 1000, 100, 2, held...)
	putsNone(t, b, 1090, "-", api.ErrFull)
	takes(t, b, "ab")
	stands(t, b, 1002, 98, 0, held...)
	putsNone(t, b, 1090, "-", api.ErrFull)
	puts(t, b, 1000, "--", 0)
	putsNone(t, b, 1090, "-", api.ErrFull)
	puts(t, b, 1002, "cd", 2)
	puts(t, b, 1090, "-", 1)
	stands(t, b, 1002, 98, 4, append(held[1:], piece{1090, 1091})...)
	putsNone(t, b, 1092, "-", api.ErrFull)
	takes(t, b, "cdxy")
	stands(t, b, 1006, 94, 0, append(held[1:], piece{1090, 1091})...)
	putsNone(t, b, 1092, "-", api.ErrFull)
	putsNone(t, b, 1007, "-", api.ErrFull)
}

// One piece fewer than may be: there is room for one.
func TestOneHoleLeft(t *testing.T) { // P18.2
	b, held := full(t)
	puts(t, b, 1006, "---", 3)
	puts(t, b, 1095, "-", 1)
	putsNone(t, b, 1097, "-", api.ErrFull)
	held[1][0] = 1004
	stands(t, b, 1000, 100, 0, append(held[1:], piece{1095, 1096})...)
}

func TestTake(t *testing.T) { // P18.3
	b := made(t, 50, 20)
	takes(t, b, "")
	puts(t, b, 52, "cd", 2)
	takes(t, b, "")
	stands(t, b, 50, 20, 0, piece{52, 54})
	puts(t, b, 50, "a", 1)
	takes(t, b, "a")
	stands(t, b, 51, 19, 0, piece{52, 54})
	puts(t, b, 51, "b", 1)
	puts(t, b, 55, "f", 1)
	stands(t, b, 51, 19, 3, piece{55, 56})
	takes(t, b, "bcd")
	takes(t, b, "")
	stands(t, b, 54, 16, 0, piece{55, 56})
	puts(t, b, 54, "e", 1)
	takes(t, b, "ef")
	stands(t, b, 56, 14, 0)
}

// All values of a byte come as they were put.
func TestAllBytes(t *testing.T) { // P18.3, P18.4
	b := made(t, 1<<32-100, 256)
	var want []byte
	for n := range 256 {
		want = append(want, byte(n))
	}
	puts(t, b, 0, string(want[100:]), 156)
	puts(t, b, 1<<32-100, string(want[:100]), 100)
	takes(t, b, string(want))
}

// The greatest room, by single bytes from both its ends.
func TestGreatestRoom(t *testing.T) { // P18.2 to P18.5
	text := stream(3, api.MaxSniff)
	const next = 1<<32 - 5000
	b := made(t, next, api.MaxSniff)
	for n := api.MaxSniff - 1; n >= api.MaxSniff/2; n-- {
		if fresh, e := b.Put(next+uint32(n), text[n:]); fresh != 1 || e != api.OK {
			t.Fatalf("Put of byte %d = %d, %d", n, fresh, e)
		}
	}
	for n := range api.MaxSniff / 2 {
		if fresh, e := b.Put(next+uint32(n), text[n:n+1]); fresh != 1 || e != api.OK {
			t.Fatalf("Put of byte %d = %d, %d", n, fresh, e)
		}
	}
	stands(t, b, next, api.MaxSniff, api.MaxSniff)
	takes(t, b, string(text))
	stands(t, b, api.MaxSniff-5000, 0, 0)
}

// stream makes a stream of so many bytes.
func stream(seed chance, long int) []byte {
	out := make([]byte, long)
	for i := range out {
		out[i] = byte(seed.next())
	}
	return out
}

// Bytes of one stream, in chance's pieces and order, with takes in between.
func TestInWhateverOrder(t *testing.T) { // P18.4, P18.5
	for seed := range chance(60) {
		c := seed
		text := stream(seed+1000, 1+c.below(600))
		next, room := uint32(c.next()), c.below(700)
		if seed%3 == 0 {
			next = -uint32(c.below(len(text)))
		}
		b := made(t, next, room)
		put := make([]bool, len(text))
		var got []byte
		for range 4 * len(text) {
			from := c.below(len(text))
			to := min(len(text), from+c.below(40))
			if _, e := b.Put(next+uint32(from), text[from:to]); e == api.OK {
				for n := from; n < min(to, room); n++ {
					put[n] = true
				}
			} else if e != api.ErrFull {
				t.Fatalf("Put = %d", e)
			}
			if c.below(9) == 0 {
				got = append(got, b.Take()...)
			}
		}
		got = append(got, b.Take()...)
		want := len(text)
		if n := slices.Index(put, false); n >= 0 {
			want = n
		}
		if !bytes.Equal(got, text[:want]) {
			t.Fatalf("seed %d: %d bytes were taken, want the first %d", seed, len(got), want)
		}
		if b.Room()+len(got) != room || b.Next() != next+uint32(want) {
			t.Fatalf("seed %d: Room is %d, Next %d", seed, b.Room(), b.Next())
		}
	}
}

// cut cuts so many bytes into at most MaxHoles + 1 pieces, in an order by chance.
func cut(c *chance, long int) [][2]int {
	cuts := []int{0, long}
	for range c.below(api.MaxHoles + 1) {
		cuts = append(cuts, c.below(long))
	}
	slices.Sort(cuts)
	var out [][2]int
	for n := range len(cuts) - 1 {
		out = append(out, [2]int{cuts[n], cuts[n+1]})
	}
	for n := range out {
		other := n + c.below(len(out)-n)
		out[n], out[other] = out[other], out[n]
	}
	return out
}

// Pieces that all fit, in any order, each put once: all is taken, each byte once.
func TestAllComes(t *testing.T) { // P18.4
	for seed := range chance(300) {
		c := seed
		long := 1 + c.below(800)
		text := stream(seed, long)
		next := uint32(c.next())
		if seed%3 == 0 {
			next = -uint32(c.below(long))
		}
		b := made(t, next, long+c.below(3))
		var got []byte
		for _, p := range cut(&c, long) {
			puts(t, b, next+uint32(p[0]), string(text[p[0]:p[1]]), p[1]-p[0])
			if seed%2 == 0 {
				got = append(got, b.Take()...)
			}
		}
		got = append(got, b.Take()...)
		if !bytes.Equal(got, text) {
			t.Fatalf("seed %d: %d bytes were taken, want %d", seed, len(got), long)
		}
	}
}

// none is where a row has no byte.
const none = -1

// row is a second working of the chapter's words: all places of a buffer.
type row struct {
	next  uint32
	cells []int // what stands from next on: as many as there is room
}

func newRow(next uint32, room int) *row {
	return &row{next, slices.Repeat([]int{none}, room)}
}

// held tells the pieces, but one that begins at next, and how long that is.
func (r *row) held() ([]piece, int) {
	var held []piece
	ready := 0
	for n, x := range r.cells {
		switch {
		case x == none:
		case n == ready:
			ready++
		case r.cells[n-1] == none:
			held = append(held, piece{r.next + uint32(n), r.next + uint32(n) + 1})
		default:
			held[len(held)-1][1]++
		}
	}
	return held, ready
}

func (r *row) put(at uint32, data []byte) (int, api.Errno) {
	was := slices.Clone(r.cells)
	fresh := 0
	for i, x := range data {
		place := int64(int32(at-r.next)) + int64(i)
		if place >= 0 && place < int64(len(r.cells)) && r.cells[place] == none {
			r.cells[place] = int(x)
			fresh++
		}
	}
	if held, _ := r.held(); len(held) > api.MaxHoles {
		r.cells = was
		return 0, api.ErrFull
	}
	return fresh, api.OK
}

func (r *row) take() []byte {
	var out []byte
	for len(r.cells) > 0 && r.cells[0] != none {
		out = append(out, byte(r.cells[0]))
		r.cells = r.cells[1:]
		r.next++
	}
	return out
}

// near makes a number near next, or, seldom, anywhere.
func near(c *chance, next uint32, room int) uint32 {
	if c.below(20) == 0 {
		return uint32(c.next())
	}
	return next + uint32(c.below(room+20)) - 10
}

// Chance's calls are answered as the row does, and bring what it has.
func TestAsTheRow(t *testing.T) { // P18.1 to P18.3, P18.5
	refused := 0
	for seed := range chance(300) {
		c := seed
		next, room := uint32(c.next()), c.below(150)
		if seed%3 == 0 {
			next = -uint32(c.below(100))
		}
		b, r := made(t, next, room), newRow(next, room)
		most := 1 + c.below(8)
		for range 150 {
			at, data := near(&c, r.next, len(r.cells)), stream(c, c.below(most))
			want, wantE := r.put(at, data)
			if got, e := b.Put(at, data); got != want || e != wantE {
				t.Fatalf("seed %d: Put(%d, %q) = %d, %d; want %d, %d", seed, at, data, got, e, want, wantE)
			}
			if wantE == api.ErrFull {
				refused++
			}
			if c.below(12) == 0 {
				takes(t, b, string(r.take()))
			}
			if c.below(20) == 0 {
				b = b.Copy()
			}
			held, ready := r.held()
			stands(t, b, r.next, len(r.cells), ready, held...)
		}
		takes(t, b, string(r.take()))
		if t.Failed() {
			t.Fatalf("seed %d", seed)
		}
	}
	if refused < 100 {
		t.Errorf("only %d were refused", refused)
	}
}

// Each of two lives on as if there were no other.
func TestCopyApart(t *testing.T) { // P18.1
	b := made(t, 1<<32-2, 20)
	puts(t, b, 1<<32-2, "a", 1)
	takes(t, b, "a")
	puts(t, b, 5, "hi", 2)
	puts(t, b, 1<<32-1, "b", 1)
	c := b.Copy()
	stands(t, c, 1<<32-1, 19, 1, piece{5, 7})
	puts(t, b, 0, "cd", 2)
	puts(t, c, 0, "CDEFGHI", 5)
	stands(t, b, 1<<32-1, 19, 3, piece{5, 7})
	stands(t, c, 1<<32-1, 19, 8)
	takes(t, b, "bcd")
	stands(t, c, 1<<32-1, 19, 8)
	takes(t, c, "bCDEFGhi")
	stands(t, b, 2, 16, 0, piece{5, 7})
	stands(t, c, 7, 11, 0)
	puts(t, b, 2, "efg", 3)
	takes(t, b, "efghi")
}

func TestCopyFull(t *testing.T) { // P18.1, P18.2
	b, held := full(t)
	c := b.Copy()
	stands(t, c, 1000, 100, 0, held...)
	putsNone(t, c, 1090, "-", api.ErrFull)
	puts(t, c, 1006, "---", 3)
	puts(t, c, 1090, "-", 1)
	stands(t, b, 1000, 100, 0, held...)
	putsNone(t, b, 1090, "-", api.ErrFull)
}

// What is handed in is only read, and not kept.
func TestPutKeepsNothing(t *testing.T) { // R3
	b := made(t, 100, 9)
	data := []byte("--abcdefgh")
	for _, p := range [][2]int{{4, 6}, {0, 3}, {0, 10}} {
		if _, e := b.Put(98+uint32(p[0]), data[p[0]:p[1]]); e != api.OK {
			t.Fatal(e)
		}
		if string(data) != "--abcdefgh" {
			t.Fatalf("data became %q", data)
		}
	}
	clear(data)
	takes(t, b, "abcdefgh")
}

// What is answered is new memory.
func TestAnswersNewMemory(t *testing.T) { // R3
	b, held := full(t)
	first := b.Held()
	clear(first)
	_ = append(first[:0], piece{1, 2}, piece{3, 4})
	stands(t, b, 1000, 100, 0, held...)
	puts(t, b, 1000, "abcd", 4)
	c := b.Copy()
	took := b.Take()
	clear(took)
	_ = append(took, "----------"...)
	stands(t, b, 1006, 94, 0, held[1:]...)
	puts(t, b, 1006, "efg", 3)
	takes(t, b, "efgxy")
	takes(t, c, "abcdxy")
}

// Buffers in goroutines of their own answer as they do alone.
func TestAtTheSameTime(t *testing.T) { // R7
	text := stream(5, 2000)
	var wg sync.WaitGroup
	got := make([]string, 8)
	for n := range got {
		wg.Go(func() {
			c := chance(n)
			b, _ := reasm.New(uint32(n), len(text))
			for len(got[n]) < len(text) {
				from := len(got[n]) + c.below(40)
				to := min(len(text), from+c.below(40))
				if from < to {
					b.Put(uint32(n+from), text[from:to])
				}
				got[n] += string(b.Take())
			}
		})
	}
	wg.Wait()
	for n, s := range got {
		if s != string(text) {
			t.Error("of the buffer " + strconv.Itoa(n) + " something else was taken")
		}
	}
}
