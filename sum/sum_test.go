package sum_test

import (
	"bytes"
	"math"
	"slices"
	"testing"

	"culvert/sum"
)

// edges are words at which something turns, and what stands beside them.
var edges = []uint16{0, 1, 2, 0x00fe, 0x00ff, 0x0100, 0x0101, 0x5555, 0x7ffe, 0x7fff, 0x8000, 0x8001, 0xaaaa, 0xff00, 0xff01, 0xfffd, 0xfffe, 0xffff}

// chance makes bytes that look like chance, always the same ones.
type chance uint64

func (c *chance) next() uint64 {
	*c = *c*6364136223846793005 + 1442695040888963407
	return uint64(*c) >> 32
}

func (c *chance) bytes(n int) []byte {
	out := make([]byte, n)
	for i := range out {
		out[i] = byte(c.next())
	}
	return out
}

// counted works a sum out in another way: what is left of all words counted
// together, by ffff, but that only noughts leave 0.
func counted(b []byte) uint16 {
	var all uint64
	for i, c := range b {
		if i%2 == 0 {
			all += uint64(c) << 8
		} else {
			all += uint64(c)
		}
	}
	if all == 0 {
		return 0
	}
	return uint16((all-1)%0xffff + 1)
}

// alike tells whether two fields are one, 0000 and ffff standing for each
// other.
func alike(a, b uint16) bool {
	return a == b || a+1 <= 1 && b+1 <= 1
}

func word(b []byte, at int) uint16 {
	return uint16(b[at])<<8 | uint16(b[at+1])
}

func lay(b []byte, at int, w uint16) {
	b[at], b[at+1] = byte(w>>8), byte(w)
}

// checkSum asks Sum, Field and Right of parts that have the sum want.
func checkSum(t *testing.T, want uint16, parts ...[]byte) {
	t.Helper()
	if got := sum.Sum(parts...); got != want {
		t.Errorf("Sum(% x) = %04x, want %04x", parts, got, want)
	}
	if got := sum.Field(parts...); got != 0xffff-want {
		t.Errorf("Field(% x) = %04x, want %04x", parts, got, 0xffff-want)
	}
	if got := sum.Right(parts...); got != (want == 0xffff) {
		t.Errorf("Right(% x) = %v, its sum is %04x", parts, got, want)
	}
}

func TestSumOfOnePart(t *testing.T) { // P2.1
	for _, x := range []struct {
		bytes string
		want  uint16
	}{
		{"", 0}, {"\x00", 0}, {"\x00\x00", 0}, {"\x00\x00\x00", 0},
		{"\x00\x01\xf2\x03\xf4\xf5\xf6\xf7", 0xddf2},
		{"\xff\xff\x00\x01", 0x0001}, {"\xff\xff", 0xffff}, {"\x12\x34\xed\xcb", 0xffff}, {"\x12\x34\xed\xca", 0xfffe}, {"\x12\x34\xed\xcc", 0x0001},
		// The first byte is the higher one; behind a last one alone 00 is thought.
		{"\xab", 0xab00}, {"\x01\x00", 0x0100}, {"\x00\x01", 0x0001}, {"\x00\x00\x01", 0x0100}, {"\x12\x34\x56", 0x6834}, {"\xff", 0xff00},
		{"\xff\xfe\x01", 0x00ff}, {"\x00\xff\xff", 0xffff}, {"\x00\xff\xff\x00", 0xffff},
		// Just below, at, and just above ffff.
		{"\xff\xfe\x00\x01", 0xffff}, {"\xff\xfe\x00\x02", 0x0001}, {"\xff\xfe\x00\x03", 0x0002}, {"\x80\x00\x7f\xff", 0xffff}, {"\x80\x00\x80\x00", 0x0001},
		// Often over ffff: it never becomes 0 again.
		{"\xff\xff\xff\xff", 0xffff}, {"\xff\xff\xff\xff\xff\xff", 0xffff}, {"\xff\xfe\xff\xfe", 0xfffd}, {"\x80\x00\x80\x00\x80\x00\x80\x00", 0x0002}, {"\xff\xff\x00\x00", 0xffff}, {"\x00\x00\xff\xff", 0xffff},
	} {
		checkSum(t, x.want, []byte(x.bytes))
	}
}

func TestSumOfManyParts(t *testing.T) { // P2.1
	ab, cd, none := []byte{0xab}, []byte{0xcd}, []byte{}
	checkSum(t, 0)
	checkSum(t, 0, nil)
	checkSum(t, 0, none, nil)
	checkSum(t, 0xabcd, ab, cd)
	checkSum(t, 0xabcd, ab, nil, none, cd, nil)
	checkSum(t, 0xab00, nil, ab, none)
	checkSum(t, 0xcdab, cd, ab)
	checkSum(t, 0x79cc, ab, cd, []byte{0xcd, 0xfe}) // abcd and cdfe
	// One part of an odd number of bytes shifts those behind it, a second one shifts them back.
	checkSum(t, 0x0507, []byte{1}, []byte{2, 3}, []byte{4}, nil, []byte{1, 1}) // 0102, 0304, 0101
	checkSum(t, 0x0403, []byte{1, 2}, []byte{3, 1})                            // 0102, 0301
	checkSum(t, 0x0502, []byte{1, 2, 3}, []byte{0}, []byte{1})                 // 0102, 0300, 0100
	checkSum(t, 0xffff, []byte{0x12}, []byte{0x34, 0xed}, []byte{0xcb})
	checkSum(t, 0x6834, []byte{0x12}, []byte{0x34, 0x56}) // 1234, 5600: not 1200, 3456
	var list [][]byte
	checkSum(t, 0, list...)
}

func TestSumHoweverParted(t *testing.T) { // P2.1
	var c chance = 1
	for n := range 24 {
		b := c.bytes(n)
		want := counted(b)
		checkSum(t, want, b)
		for i := range n + 1 {
			checkSum(t, want, b[:i], b[i:])
			for k := i; k <= n; k++ {
				checkSum(t, want, b[:i], b[i:k], b[k:])
			}
		}
		var single [][]byte
		for i := range b {
			single = append(single, b[i:i+1])
		}
		checkSum(t, want, single...)
	}
}

func TestSumOfPairs(t *testing.T) { // P2.1
	for _, a := range edges {
		for _, b := range edges {
			d := []byte{byte(a >> 8), byte(a), byte(b >> 8), byte(b)}
			want := uint32(a) + uint32(b)
			if want > 0xffff {
				want -= 0xffff
			}
			checkSum(t, uint16(want), d)
		}
	}
}

func TestSumOfManyBytes(t *testing.T) { // P2.1
	var c chance = 2
	for _, n := range []int{1499, 1500, 65535, 65536, 1<<18 + 1} {
		for _, b := range [][]byte{c.bytes(n), bytes.Repeat([]byte{0xff}, n), bytes.Repeat([]byte{0xff, 0xfe}, n)[:n]} {
			if got, want := sum.Sum(b), counted(b); got != want {
				t.Errorf("Sum of %d bytes from %02x on = %04x, want %04x", n, b[0], got, want)
			}
		}
	}
}

func TestSumIsNoughtOnlyOfNoughts(t *testing.T) { // P2.1 and the word 'sum'
	for n := range 9 {
		b := make([]byte, n)
		checkSum(t, 0, b)
		for i := range b {
			for _, v := range []byte{1, 0x80, 0xff} {
				b[i] = v
				if sum.Sum(b) == 0 || sum.Field(b) == 0xffff {
					t.Errorf("Sum(% x) = 0", b)
				}
				b[i] = 0
			}
		}
	}
}

func TestFieldMakesRight(t *testing.T) { // P2.1 and the word 'right'
	var c chance = 3
	for n := 2; n < 40; n++ {
		for at := 0; at+1 < n; at += 2 {
			b := c.bytes(n)
			lay(b, at, 0)
			lay(b, at, sum.Field(b))
			if !sum.Right(b) || sum.Sum(b) != 0xffff {
				t.Errorf("% x with its field at %d is not right", b, at)
			}
			for bit := range 8 * n {
				b[bit/8] ^= 1 << (bit % 8)
				if sum.Right(b) {
					t.Errorf("% x is right, though a bit was turned", b)
				}
				b[bit/8] ^= 1 << (bit % 8)
			}
		}
	}
}

func TestWhatIsGivenStays(t *testing.T) { // P2.1, R3
	parts := [][]byte{{1, 2, 3}, nil, {4, 5}, {6}}
	sum.Sum(parts...)
	sum.Field(parts...)
	sum.Right(parts...)
	want := [][]byte{{1, 2, 3}, nil, {4, 5}, {6}}
	if !slices.EqualFunc(parts, want, bytes.Equal) {
		t.Errorf("what was given became %v", parts)
	}
}

func TestWord(t *testing.T) { // P2.2
	for _, x := range []struct{ field, was, is, want uint16 }{
		{0xdd2f, 0x5555, 0x3285, 0x0000}, {0x0000, 0x3285, 0x5555, 0xdd2f},
		{0x1234, 0x0005, 0x0006, 0x1233}, {0x1234, 0x0006, 0x0005, 0x1235}, {0x1234, 0x4001, 0x3f01, 0x1334},
		{0x0000, 0x0005, 0x0006, 0xfffe}, {0x0001, 0x0005, 0x0006, 0x0000}, {0xffff, 0x0005, 0x0006, 0xfffe},
		{0xfffe, 0x0006, 0x0005, 0x0000}, {0xffff, 0x0006, 0x0005, 0x0001}, {0x0000, 0x0006, 0x0005, 0x0001},
		{0x1234, 0, 0, 0x1234}, {0x1234, 0xffff, 0xffff, 0x1234}, {0x1234, 0, 0xffff, 0x1234}, {0x1234, 0xffff, 0, 0x1234},
		{0xffff, 0xffff, 0, 0xffff}, {0xffff, 0, 0, 0}, {0xffff, 0, 0xffff, 0}, {0xffff, 0xffff, 0xffff, 0},
		{0, 0, 0, 0}, {0, 0xffff, 0, 0}, {0, 0, 0xffff, 0}, {0, 0xffff, 0xffff, 0}, {0, 0, 1, 0xfffe}, {0, 1, 0, 1},
	} {
		if got := sum.Word(x.field, x.was, x.is); got != x.want {
			t.Errorf("Word(%04x, %04x, %04x) = %04x, want %04x", x.field, x.was, x.is, got, x.want)
		}
	}
}

func TestWordIsItsSum(t *testing.T) { // P2.2
	for _, field := range edges {
		for _, was := range edges {
			for _, is := range edges {
				b := make([]byte, 6)
				lay(b, 0, 0xffff-field)
				lay(b, 2, 0xffff-was)
				lay(b, 4, is)
				want := 0xffff - counted(b)
				if got := sum.Word(field, was, is); got != want {
					t.Errorf("Word(%04x, %04x, %04x) = %04x, want %04x", field, was, is, got, want)
				}
			}
		}
	}
}

func TestLong(t *testing.T) { // P2.2
	for _, x := range []struct {
		field   uint16
		was, is uint32
		want    uint16
	}{
		{0x1234, 0x00050007, 0x00060007, 0x1233}, {0x1234, 0x00070005, 0x00070006, 0x1233},
		{0x1234, 0x00050000, 0x00060100, 0x1133}, {0x1234, 0, 0, 0x1234},
		{0x0001, 0, 0x00020000, 0xfffe}, {0x0001, 0, 0x00000002, 0xfffe}, {0xffff, 0, 0, 0},
		// What goes over ffff in the lower word does not go into the higher one.
		{0x1234, 0x0000ffff, 0x00010000, 0x1233},
		{0xffff, math.MaxUint32, 0, 0xffff}, {0xffff, 0xffff0000, 0, 0}, {0xffff, 0x0000ffff, 0, 0},
	} {
		if got := sum.Long(x.field, x.was, x.is); got != x.want {
			t.Errorf("Long(%04x, %08x, %08x) = %04x, want %04x", x.field, x.was, x.is, got, x.want)
		}
	}
	var c chance = 4
	for range 2000 {
		field, was, is := uint16(c.next()), uint32(c.next()), uint32(c.next())
		want := sum.Word(sum.Word(field, uint16(was>>16), uint16(is>>16)), uint16(was), uint16(is))
		if got := sum.Long(field, was, is); got != want {
			t.Errorf("Long(%04x, %08x, %08x) = %04x, want %04x", field, was, is, got, want)
		}
	}
}

func TestPseudo(t *testing.T) { // P2.3
	for _, x := range []struct {
		src, dst uint32
		proto    byte
		n        int
		want     []byte
	}{
		{0, 0, 0, 0, make([]byte, 12)},
		{0x0a000001, 0xcb007109, 6, 300, []byte{10, 0, 0, 1, 203, 0, 113, 9, 0, 6, 1, 44}},
		{0x01020304, 0x05060708, 17, 0x090a, []byte{1, 2, 3, 4, 5, 6, 7, 8, 0, 17, 9, 10}},
		{math.MaxUint32, 0, 255, 0xffff, []byte{255, 255, 255, 255, 0, 0, 0, 0, 0, 255, 255, 255}},
		{0, math.MaxUint32, 1, 255, []byte{0, 0, 0, 0, 255, 255, 255, 255, 0, 1, 0, 255}},
		// Of n its lower 16 bits.
		{1, 2, 6, 0x10000, []byte{0, 0, 0, 1, 0, 0, 0, 2, 0, 6, 0, 0}},
		{1, 2, 6, 0x7fff1234, []byte{0, 0, 0, 1, 0, 0, 0, 2, 0, 6, 0x12, 0x34}},
		{1, 2, 6, -1, []byte{0, 0, 0, 1, 0, 0, 0, 2, 0, 6, 255, 255}},
		{1, 2, 6, -256, []byte{0, 0, 0, 1, 0, 0, 0, 2, 0, 6, 255, 0}},
		{1, 2, 6, math.MinInt, []byte{0, 0, 0, 1, 0, 0, 0, 2, 0, 6, 0, 0}},
		{1, 2, 6, math.MaxInt, []byte{0, 0, 0, 1, 0, 0, 0, 2, 0, 6, 255, 255}},
	} {
		if got := sum.Pseudo(x.src, x.dst, x.proto, x.n); !bytes.Equal(got, x.want) {
			t.Errorf("Pseudo(%08x, %08x, %d, %d) = %v, want %v", x.src, x.dst, x.proto, x.n, got, x.want)
		}
	}
}

func TestPseudoIsNew(t *testing.T) { // P2.3, R3
	a := sum.Pseudo(1, 2, 3, 4)
	b := sum.Pseudo(1, 2, 3, 4)
	clear(a)
	if !bytes.Equal(b, []byte{0, 0, 0, 1, 0, 0, 0, 2, 0, 3, 0, 4}) || !bytes.Equal(sum.Pseudo(1, 2, 3, 4), b) {
		t.Error("two answers share memory")
	}
}

// checkChanged holds b, whose field at field was changed along with its bytes,
// against the field that is laid anew.
func checkChanged(t *testing.T, b []byte, field int) {
	t.Helper()
	anew := bytes.Clone(b)
	lay(anew, field, 0)
	bare := sum.Sum(anew) == 0
	if want := sum.Field(anew); !alike(word(b, field), want) {
		t.Errorf("% x: the field at %d, laid anew, is %04x", b, field, want)
	}
	if !bare && !sum.Right(b) {
		t.Errorf("% x: with its field at %d changed it is not right", b, field)
	}
}

func TestChangedWordIsRight(t *testing.T) { // P2.4
	var c chance = 5
	for n := 4; n < 24; n++ {
		for at := 2; at+1 < n; at += 2 {
			b := c.bytes(n)
			for _, to := range edges {
				lay(b, 0, 0)
				lay(b, 0, sum.Field(b))
				was := word(b, at)
				lay(b, at, to)
				lay(b, 0, sum.Word(word(b, 0), was, to))
				checkChanged(t, b, 0)
			}
		}
	}
}

func TestChangedEdgesAreRight(t *testing.T) { // P2.4
	for _, other := range edges {
		for _, was := range edges {
			for _, is := range edges {
				b := make([]byte, 6)
				lay(b, 0, other)
				lay(b, 4, was)
				lay(b, 2, sum.Field(b))
				lay(b, 4, is)
				lay(b, 2, sum.Word(word(b, 2), was, is))
				checkChanged(t, b, 2)
			}
		}
	}
}

func TestChangedLongIsRight(t *testing.T) { // P2.4
	var c chance = 6
	for range 2000 {
		b := c.bytes(20)
		lay(b, 10, 0)
		lay(b, 10, sum.Field(b))
		was, is := uint32(word(b, 12))<<16|uint32(word(b, 14)), uint32(c.next())
		lay(b, 12, uint16(is>>16))
		lay(b, 14, uint16(is))
		lay(b, 10, sum.Long(word(b, 10), was, is))
		checkChanged(t, b, 10)
	}
}

func TestChangedToNoughts(t *testing.T) { // P2.4: why it is said 'if any byte but the field's is not 0'
	b := []byte{0xed, 0xcb, 0x12, 0x34}
	if !sum.Right(b) {
		t.Fatal("it was not right")
	}
	lay(b, 0, sum.Word(0xedcb, 0x1234, 0))
	lay(b, 2, 0)
	if word(b, 0) != 0 || sum.Right(b) {
		t.Errorf("% x: noughts alone are right", b)
	}
	lay(b, 0, 0xffff) // the field of noughts, laid anew
	lay(b, 0, sum.Word(word(b, 0), 0, 0x1234))
	lay(b, 2, 0x1234)
	if !bytes.Equal(b, []byte{0xed, 0xcb, 0x12, 0x34}) {
		t.Errorf("% x: and back", b)
	}
}

func TestOrderDoesNotMatter(t *testing.T) { // P2.5
	var c chance = 7
	for n := 2; n <= 24; n += 2 {
		b := c.bytes(n)
		want := sum.Sum(b)
		for i := 0; i < n; i += 2 {
			for k := 0; k < n; k += 2 {
				d := bytes.Clone(b)
				lay(d, i, word(b, k))
				lay(d, k, word(b, i))
				checkSum(t, want, d)
			}
			checkSum(t, want, b[i:], b[:i])
			checkSum(t, want, b[:i], b[i:])
		}
	}
	// At odd places it does matter.
	if d := []byte{1, 2, 3, 4}; sum.Sum(d[1:], d[:1]) == sum.Sum(d) {
		t.Error("parted at an odd place, and put the other way round")
	}
}

func TestNoughtsChangeNothing(t *testing.T) { // P2.5
	var c chance = 8
	zero := make([]byte, 64)
	for n := range 20 {
		b := c.bytes(n)
		want := sum.Sum(b)
		for long := 0; long <= 6; long += 2 {
			for at := 0; at <= n; at += 2 {
				checkSum(t, want, b[:at], zero[:long], b[at:])
				checkSum(t, want, slices.Concat(b[:at], zero[:long], b[at:]))
			}
			checkSum(t, want, zero[:long], b)
		}
		for long := range 6 { // behind all bytes one alone, too
			checkSum(t, want, b, zero[:long])
		}
	}
}

func TestTheOtherWayRound(t *testing.T) { // P2.5
	var c chance = 9
	for n := 0; n <= 40; n += 2 {
		b := c.bytes(n)
		d := bytes.Clone(b)
		for i := 0; i < n; i += 2 {
			d[i], d[i+1] = b[i+1], b[i]
		}
		want := sum.Sum(b)
		checkSum(t, want<<8|want>>8, d)
	}
	checkSum(t, 0x00ab, []byte{0}, []byte{0xab}) // ab alone is ab00
}

func TestWordOfItself(t *testing.T) { // P2.6
	for _, w := range edges {
		for field := range 1 << 16 {
			if got := sum.Word(uint16(field), w, w); !alike(got, uint16(field)) {
				t.Errorf("Word(%04x, %04x, %04x) = %04x", field, w, w, got)
			}
		}
	}
}

func TestWordThereAndBack(t *testing.T) { // P2.6
	var c chance = 10
	check := func(field, was, is uint16) {
		if got := sum.Word(sum.Word(field, was, is), is, was); !alike(got, field) {
			t.Errorf("%04x, from %04x to %04x and back, is %04x", field, was, is, got)
		}
	}
	for _, field := range edges {
		for _, was := range edges {
			for _, is := range edges {
				check(field, was, is)
			}
		}
	}
	for range 20000 {
		check(uint16(c.next()), uint16(c.next()), uint16(c.next()))
	}
}
