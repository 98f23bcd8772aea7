package opts_test

import (
	"bytes"
	"math"
	"slices"
	"testing"

	"culvert/api"
	"culvert/opts"
)

// chance makes bytes that look like chance, always the same ones.
type chance uint64

func (c *chance) next() uint64 {
	*c = *c*6364136223846793005 + 1442695040888963407
	return uint64(*c) >> 32
}

func (c *chance) bytes(n int) []byte {
	out := make([]byte, n)
	for i := range out {
		out[i] = byte(c.next())
	}
	return out
}

// options makes options that may be, of at most 40 bytes.
func (c *chance) options() []api.Opt {
	var l []api.Opt
	for left := int(c.next() % 41); left >= 2; {
		n := int(c.next() % uint64(left-1))
		if c.next()%4 > 0 {
			n = min(n, 4)
		}
		kind := byte(2 + c.next()%254)
		if c.next()%2 == 0 {
			kind = byte(2 + c.next()%5)
		}
		l = append(l, api.Opt{Kind: kind, Data: c.bytes(n)})
		left -= 2 + n
	}
	return l
}

// opt is an option of a kind and a text as its Data.
func opt(kind byte, data string) api.Opt {
	return api.Opt{Kind: kind, Data: []byte(data)}
}

// opaque is an option of a kind and n bytes of Data.
func opaque(kind byte, n int) api.Opt {
	return api.Opt{Kind: kind, Data: bytes.Repeat([]byte{0x5a}, n)}
}

// same holds options against each other in another way than the program's.
func same(a, b []api.Opt) bool {
	if len(a) != len(b) {
		return false
	}
	for i := range a {
		if a[i].Kind != b[i].Kind || string(a[i].Data) != string(b[i].Data) {
			return false
		}
	}
	return true
}

// cloned is a copy of l that has no memory in common with it.
func cloned(l []api.Opt) []api.Opt {
	out := slices.Clone(l)
	for i := range out {
		out[i].Data = bytes.Clone(out[i].Data)
	}
	return out
}

// parsed holds Parse's answer against want and e, and b against what it was.
func parsed(t *testing.T, name string, b []byte, want []api.Opt, e api.Errno) {
	t.Helper()
	before := bytes.Clone(b)
	l, got := opts.Parse(b)
	if got != e || !same(l, want) {
		t.Errorf("%s: Parse(% x) = %v, %d, want %v, %d", name, b, l, got, want, e)
	}
	if !bytes.Equal(b, before) {
		t.Errorf("%s: % x became % x", name, before, b)
	}
}

// refused holds Parse's error against e; nothing else is told.
func refused(t *testing.T, name string, b []byte, e api.Errno) {
	t.Helper()
	parsed(t, name, b, nil, e)
}

// put tells Put's bytes, which must be there.
func put(t *testing.T, l []api.Opt) []byte {
	t.Helper()
	before := cloned(l)
	b, e := opts.Put(l)
	if e != api.OK {
		t.Fatalf("Put(%v) = %d", l, e)
	}
	if !same(l, before) {
		t.Errorf("%v became %v", before, l)
	}
	return b
}

// unput holds Put's error against e; nothing else is told.
func unput(t *testing.T, name string, l []api.Opt, e api.Errno) {
	t.Helper()
	if b, got := opts.Put(l); got != e || len(b) != 0 {
		t.Errorf("%s: Put = % x, %d, want %d", name, b, got, e)
	}
}

// read is Parse, in another way than the program's: place by place.
func read(b []byte) ([]api.Opt, api.Errno) {
	var l []api.Opt
	if len(b) > 40 {
		return nil, api.ErrLong
	}
	for i := 0; i < len(b); {
		switch {
		case b[i] == 0:
			if len(bytes.Trim(b[i:], "\x00")) > 0 {
				return nil, api.ErrForm
			}
			return l, api.OK
		case b[i] == 1:
			i++
		case i+1 == len(b):
			return nil, api.ErrShort
		case b[i+1] < 2:
			return nil, api.ErrForm
		case i+int(b[i+1]) > len(b):
			return nil, api.ErrShort
		default:
			l = append(l, api.Opt{Kind: b[i], Data: b[i+2 : i+int(b[i+1])]})
			i += int(b[i+1])
		}
	}
	return l, api.OK
}

func TestParse(t *testing.T) { // P5.1
	for _, x := range []struct {
		b    string
		want []api.Opt
	}{
		{"", nil},
		{"\x00", nil}, {"\x00\x00\x00\x00", nil}, {"\x01", nil}, {"\x01\x01\x01", nil}, {"\x01\x01\x00\x00", nil},
		{"\x02\x04\x05\xb4", []api.Opt{opt(2, "\x05\xb4")}},
		{"\x04\x02", []api.Opt{opt(4, "")}},
		{"\x04\x02\x00\x00", []api.Opt{opt(4, "")}},
		{"\x01\x04\x02\x01", []api.Opt{opt(4, "")}},
		{"\x01\x03\x03\x07\x01\x00\x00", []api.Opt{opt(3, "\x07")}},
		// In order, doubled ones, too; 0 and 1 within an option are its Data.
		{"\x09\x03\x01\x09\x04\x00\x00\x08\x02\x09\x03\x01", []api.Opt{opt(9, "\x01"), opt(9, "\x00\x00"), opt(8, ""), opt(9, "\x01")}},
		// Known kinds of other lengths are options, too.
		{"\x02\x02\x03\x04ab\x04\x03c\x05\x03d", []api.Opt{opt(2, ""), opt(3, "ab"), opt(4, "c"), opt(5, "d")}},
		{"\xff\x04\xff\xff", []api.Opt{opt(255, "\xff\xff")}},
	} {
		parsed(t, "ordinary", []byte(x.b), x.want, api.OK)
	}
	for kind := 2; kind < 256; kind++ {
		for _, n := range []int{0, 1, 2, 8, 37, 38} {
			o := opaque(byte(kind), n)
			b := append([]byte{byte(kind), byte(n + 2)}, o.Data...)
			parsed(t, "each kind", b, []api.Opt{o}, api.OK)
		}
	}
}

func TestParseLong(t *testing.T) { // P5.1: ErrLong, whatever else is wrong
	for _, n := range []int{41, 42, 44, 255, 1500, 1 << 16, 1 << 20} {
		for _, x := range []byte{0, 1, 2, 9, 0xff} {
			refused(t, "too many", bytes.Repeat([]byte{x}, n), api.ErrLong)
		}
	}
	refused(t, "too many, length", append([]byte{2, 1}, make([]byte, 39)...), api.ErrLong)
	refused(t, "too many, behind an end", append(make([]byte, 40), 1), api.ErrLong)
	parsed(t, "40 ends", make([]byte, 40), nil, api.OK)
	parsed(t, "40 of nothing", bytes.Repeat([]byte{1}, 40), nil, api.OK)
	parsed(t, "20 options", bytes.Repeat([]byte{4, 2}, 20), slices.Repeat([]api.Opt{opt(4, "")}, 20), api.OK)
}

func TestParseShort(t *testing.T) { // P5.1: ErrShort
	for kind := 2; kind < 256; kind++ {
		k := byte(kind)
		refused(t, "no length", []byte{k}, api.ErrShort)
		refused(t, "no length", []byte{1, 1, k}, api.ErrShort)
		refused(t, "no length", []byte{4, 2, k}, api.ErrShort)
		for n := 3; n < 256; n++ {
			refused(t, "no Data", []byte{k, byte(n)}, api.ErrShort)
		}
	}
	for n := 3; n <= 40; n++ {
		whole := append([]byte{7, byte(n)}, make([]byte, n-2)...)
		for k := 1; k < n; k++ {
			refused(t, "a beginning", whole[:k], api.ErrShort)
		}
	}
	refused(t, "one more than there are", append([]byte{7, 41}, make([]byte, 38)...), api.ErrShort)
	refused(t, "most", append([]byte{7, 255}, make([]byte, 38)...), api.ErrShort)
	refused(t, "no length, 40 bytes", append(bytes.Repeat([]byte{1}, 39), 3), api.ErrShort)
	// What b has room for is not its.
	all := []byte{2, 4, 5, 0xb4}
	refused(t, "a part", all[:3], api.ErrShort)
	refused(t, "a part", all[:1], api.ErrShort)
}

func TestParseForm(t *testing.T) { // P5.1: ErrForm
	for kind := 2; kind < 256; kind++ {
		k := byte(kind)
		for _, n := range []byte{0, 1} {
			refused(t, "length", []byte{k, n}, api.ErrForm)
			refused(t, "length", []byte{k, n, 0, 0}, api.ErrForm)
			refused(t, "length", []byte{1, 4, 2, k, n, 1}, api.ErrForm)
		}
	}
	for x := 1; x < 256; x++ {
		for n := 1; n < 40; n++ {
			b := make([]byte, 40)
			b[n] = byte(x)
			refused(t, "behind an end", b, api.ErrForm)
			refused(t, "behind an end", b[:n+1], api.ErrForm)
		}
		refused(t, "behind an end", []byte{4, 2, 0, byte(x)}, api.ErrForm)
		refused(t, "behind an end", []byte{1, 0, 0, byte(x), 0}, api.ErrForm)
	}
	refused(t, "an option behind an end", []byte{0, 4, 2}, api.ErrForm)
}

func TestParseFromTheFirstByteOn(t *testing.T) { // P5.1: what is wrong first is told
	refused(t, "length, no length", []byte{2, 1, 9}, api.ErrForm)
	refused(t, "length, too few", []byte{3, 0, 9, 9}, api.ErrForm)
	refused(t, "too few, and a length within them", []byte{9, 9, 2, 1}, api.ErrShort)
	refused(t, "too few, and an end within them", []byte{9, 9, 0, 1}, api.ErrShort)
	refused(t, "end, no length", []byte{0, 9}, api.ErrForm)
	refused(t, "an option, end, too few", []byte{4, 2, 0, 2, 4, 5}, api.ErrForm)
}

func TestParseOfAnything(t *testing.T) { // P5.1, R1, R2
	some := []byte{0, 1, 2, 3, 4, 5, 9}
	var each func(b []byte)
	each = func(b []byte) {
		l, e := read(b)
		parsed(t, "each", b, l, e)
		for i := 0; i < len(some) && len(b) < 6; i++ {
			each(append(b[:len(b):len(b)], some[i]))
		}
	}
	each(nil)
	var c chance = 1
	for range 50000 {
		b := c.bytes(int(c.next() % 44))
		for i := range b {
			if c.next()%4 > 0 { // so that it comes further
				b[i] %= 8
			}
		}
		l, e := read(b)
		parsed(t, "chance", b, l, e)
	}
}

func TestParseIsNew(t *testing.T) { // R3
	b := []byte{9, 4, 'a', 'b', 8, 4, 'c', 'd', 4, 2}
	want := []api.Opt{opt(9, "ab"), opt(8, "cd"), opt(4, "")}
	l, _ := opts.Parse(b)
	other, _ := opts.Parse(b)
	for _, o := range l {
		clear(o.Data[:cap(o.Data)])
	}
	if string(b) != "\x09\x04ab\x08\x04cd\x04\x02" {
		t.Errorf("what was handed in became % x", b)
	}
	clear(b)
	if !same(other, want) {
		t.Errorf("what was told became %v", other)
	}
	// Nor do two of one answer share any.
	other[0].Data = append(other[0].Data[:0], bytes.Repeat([]byte{1}, cap(other[0].Data))...)
	_ = append(other[0].Data, 2, 2, 2)
	if string(other[1].Data) != "cd" {
		t.Errorf("two of one answer share memory: %v", other)
	}
}

func TestPut(t *testing.T) { // P5.2
	for _, x := range []struct {
		l    []api.Opt
		want string
	}{
		{nil, ""},
		{[]api.Opt{}, ""},
		{[]api.Opt{{Kind: 4}}, "\x04\x02\x00\x00"},
		{[]api.Opt{{Kind: 4, Data: []byte{}}}, "\x04\x02\x00\x00"},
		{[]api.Opt{opt(3, "\x07")}, "\x03\x03\x07\x00"},
		{[]api.Opt{opt(2, "\x05\xb4")}, "\x02\x04\x05\xb4"},
		{[]api.Opt{opt(255, "abc")}, "\xff\x05abc\x00\x00\x00"},
		{[]api.Opt{{Kind: 9}, {Kind: 8}}, "\x09\x02\x08\x02"},
		{[]api.Opt{{Kind: 8}, {Kind: 9}, {Kind: 8}}, "\x08\x02\x09\x02\x08\x02\x00\x00"},
		{[]api.Opt{opt(2, "\x05\xb4"), opt(4, ""), opt(3, "\x0e")}, "\x02\x04\x05\xb4\x04\x02\x03\x03\x0e\x00\x00\x00"},
		{[]api.Opt{opt(2, "\x00\x00"), opt(2, "\x01\x01")}, "\x02\x04\x00\x00\x02\x04\x01\x01"},
	} {
		if b := put(t, x.l); string(b) != x.want {
			t.Errorf("Put(%v) = % x, want % x", x.l, b, x.want)
		}
	}
}

func TestPutLengths(t *testing.T) { // P5.2
	for n := range 39 {
		o := opaque(77, n)
		b := put(t, []api.Opt{o})
		want := append([]byte{77, byte(n + 2)}, o.Data...)
		for len(want)%4 > 0 {
			want = append(want, 0)
		}
		if !bytes.Equal(b, want) {
			t.Errorf("Data of %d: % x", n, b)
		}
		// Up to 40 with another one, and beyond that.
		for k := range 39 {
			l := []api.Opt{o, opaque(3, k)}
			if n+k+4 > 40 {
				unput(t, "two", l, api.ErrLong)
			} else if b := put(t, l); len(b) != (n+k+7)/4*4 {
				t.Errorf("Data of %d and %d: % x", n, k, b)
			}
		}
	}
	full := slices.Repeat([]api.Opt{{Kind: 4}}, 20)
	if b := put(t, full); !bytes.Equal(b, bytes.Repeat([]byte{4, 2}, 20)) {
		t.Errorf("20 of 4: % x", b)
	}
	unput(t, "21", append(full, api.Opt{Kind: 4}), api.ErrLong)
	unput(t, "129 and more", slices.Repeat(full, 1000), api.ErrLong)
	unput(t, "many long ones", slices.Repeat([]api.Opt{opaque(9, 38)}, 1000), api.ErrLong)
}

func TestPutOfWhatMayNotBe(t *testing.T) { // P5.2: ErrArg comes ahead of ErrLong
	tooMany := slices.Repeat([]api.Opt{opaque(9, 38)}, 3)
	for _, wrong := range []api.Opt{
		{}, {Kind: 1}, opaque(0, 2), opaque(1, 2), opaque(0, 38), opaque(1, 38), opaque(1, 39), opaque(0, 1000),
		opaque(2, 39), opaque(9, 39), opaque(255, 39), opaque(4, 40), opaque(5, 254), opaque(9, 256), opaque(9, 258), opaque(9, 1<<20),
	} {
		unput(t, "alone", []api.Opt{wrong}, api.ErrArg)
		unput(t, "first", []api.Opt{wrong, opt(4, "")}, api.ErrArg)
		unput(t, "last", []api.Opt{opt(2, "ab"), opt(4, ""), wrong}, api.ErrArg)
		unput(t, "ahead of too many", append([]api.Opt{wrong}, tooMany...), api.ErrArg)
		unput(t, "behind too many", append(slices.Clone(tooMany), wrong), api.ErrArg)
	}
	for kind := range 256 {
		e := api.ErrArg
		if kind >= 2 {
			e = api.OK
		}
		for _, n := range []int{0, 1, 38} {
			if _, got := opts.Put([]api.Opt{opaque(byte(kind), n)}); got != e {
				t.Errorf("kind %d, Data of %d: %d, want %d", kind, n, got, e)
			}
		}
	}
}

func TestPutIsNew(t *testing.T) { // R3
	all := []byte("abcdefgh")
	l := []api.Opt{{Kind: 9, Data: all[:2]}, {Kind: 8, Data: all[2:4]}}
	b := put(t, l)
	other := put(t, l)
	clear(b[:cap(b)])
	if string(all) != "abcdefgh" {
		t.Errorf("what was handed in became %q", all)
	}
	clear(all)
	if string(other) != "\x09\x04ab\x08\x04cd" {
		t.Errorf("what was told became % x", other)
	}
}

func TestSame(t *testing.T) { // P5.2
	lists := [][]api.Opt{
		nil,
		{{}}, {{}, {}},
		{{Kind: 1}}, {{Kind: 4}}, {{Kind: 4}, {Kind: 4}}, {{Kind: 4}, {Kind: 5}}, {{Kind: 5}, {Kind: 4}},
		{opt(4, "\x00")}, {opt(4, "a")}, {opt(4, "b")}, {opt(4, "ab")}, {opt(4, "ba")}, {opt(4, "abc")},
		{opt(9, "ab"), opt(8, "cd")}, {opt(8, "cd"), opt(9, "ab")}, {opt(9, "cd"), opt(8, "ab")},
		{opt(9, "ab"), opt(8, "ce")}, {opt(9, "ab"), opt(8, "cd"), opt(7, "")}, {opt(9, "a"), opt(8, "bcd")},
		{opaque(9, 38)}, {opaque(9, 39)}, {opaque(9, 300)}, {opaque(0, 38)},
	}
	for i, a := range lists {
		for k, b := range lists {
			if got := opts.Same(cloned(a), cloned(b)); got != (i == k) {
				t.Errorf("Same(%v, %v) = %v", a, b, got)
			}
		}
	}
	// nil and empty are one (R4).
	if !opts.Same(nil, []api.Opt{}) || !opts.Same([]api.Opt{}, nil) {
		t.Error("no options and an empty list are not the same")
	}
	if !opts.Same([]api.Opt{{Kind: 4}}, []api.Opt{{Kind: 4, Data: []byte{}}}) {
		t.Error("no Data and empty Data are not the same")
	}
}

func TestWithout(t *testing.T) { // P5.2
	l := []api.Opt{opt(2, "ab"), opt(4, ""), opt(9, "x"), opt(4, "more"), opt(2, "cd"), {}, {Kind: 1}, opaque(255, 300), opt(9, "x")}
	for kind := range 256 {
		var want []api.Opt
		for _, o := range l {
			if o.Kind != byte(kind) {
				want = append(want, o)
			}
		}
		before := cloned(l)
		if got := opts.Without(l, byte(kind)); !same(got, want) {
			t.Errorf("Without(%d) = %v, want %v", kind, got, want)
		}
		if !same(l, before) {
			t.Errorf("Without(%d): %v became %v", kind, before, l)
		}
	}
	for _, none := range [][]api.Opt{nil, {}, {opt(4, "")}, {opt(4, ""), opt(4, "x")}} {
		if got := opts.Without(none, 4); len(got) != 0 {
			t.Errorf("Without(%v, 4) = %v", none, got)
		}
	}
}

func TestWithoutIsNew(t *testing.T) { // R3
	data := []byte("abcd")
	l := []api.Opt{{Kind: 9, Data: data[:2]}, {Kind: 8, Data: data[:2]}, {Kind: 7, Data: data}}
	got := opts.Without(l, 4)
	clear(got[0].Data[:cap(got[0].Data)])
	got[2] = api.Opt{}
	if string(data) != "abcd" || !same(l, []api.Opt{opt(9, "ab"), opt(8, "ab"), opt(7, "abcd")}) {
		t.Errorf("what was handed in became %v", l)
	}
	if string(got[1].Data) != "ab" {
		t.Errorf("two of one answer share memory: %v", got)
	}
	clear(data)
	l[1] = api.Opt{}
	if !same(got[1:2], []api.Opt{opt(8, "ab")}) {
		t.Errorf("what was told became %v", got)
	}
}

// blocksOf are n blocks' bytes, and these blocks; each number has four
// different bytes.
func blocksOf(n int) (string, []opts.Block) {
	var b []byte
	var l []opts.Block
	number := func() (all uint32) {
		for range 4 {
			next := byte(0xf1 - len(b)*7)
			b, all = append(b, next), all<<8|uint32(next)
		}
		return all
	}
	for range n {
		from := number()
		l = append(l, opts.Block{From: from, To: number()})
	}
	return string(b), l
}

func TestMss(t *testing.T) { // P5.3
	for _, x := range []struct {
		l    []api.Opt
		want uint16
		ok   bool
	}{
		{nil, 0, false}, {[]api.Opt{}, 0, false},
		{[]api.Opt{opt(2, "\x05\xb4")}, 1460, true},
		{[]api.Opt{opt(2, "\x00\x00")}, 0, true}, {[]api.Opt{opt(2, "\xff\xfe")}, 0xfffe, true}, {[]api.Opt{opt(2, "\x00\x01")}, 1, true},
		{[]api.Opt{opt(2, "")}, 0, false}, {[]api.Opt{opt(2, "a")}, 0, false}, {[]api.Opt{opt(2, "abc")}, 0, false}, {[]api.Opt{opt(2, "abcd")}, 0, false},
		{[]api.Opt{opt(1, "ab"), opt(0, "ab"), opt(3, "ab"), opt(4, "ab"), opt(5, "ab"), opt(255, "ab")}, 0, false},
		// The first one that is one.
		{[]api.Opt{opt(2, "\x01\x02"), opt(2, "\x03\x04")}, 0x0102, true},
		{[]api.Opt{opt(2, "a"), opt(3, "ab"), opt(2, "\x03\x04"), opt(2, "\x05\x06")}, 0x0304, true},
		{[]api.Opt{{}, {Kind: 1}, opaque(2, 300), opt(2, "\x03\x04")}, 0x0304, true},
	} {
		if n, ok := opts.Mss(x.l); n != x.want || ok != x.ok {
			t.Errorf("Mss(%v) = %d, %v, want %d, %v", x.l, n, ok, x.want, x.ok)
		}
	}
}

func TestScale(t *testing.T) { // P5.3
	for n := range 256 {
		if got, ok := opts.Scale([]api.Opt{{Kind: 3, Data: []byte{byte(n)}}}); got != min(n, 14) || !ok {
			t.Errorf("a scale of %d: %d, %v", n, got, ok)
		}
	}
	for _, x := range []struct {
		l    []api.Opt
		want int
		ok   bool
	}{
		{nil, 0, false}, {[]api.Opt{}, 0, false},
		{[]api.Opt{opt(3, "")}, 0, false}, {[]api.Opt{opt(3, "\x07\x07")}, 0, false}, {[]api.Opt{opaque(3, 300)}, 0, false},
		{[]api.Opt{opt(0, "\x07"), opt(1, "\x07"), opt(2, "\x07"), opt(4, "\x07"), opt(5, "\x07"), opt(131, "\x07")}, 0, false},
		{[]api.Opt{opt(3, "\x07"), opt(3, "\x08")}, 7, true},
		{[]api.Opt{opt(3, "\x0f"), opt(3, "\x08")}, 14, true},
		{[]api.Opt{opt(3, ""), opt(2, "\x05"), opt(3, "\x06\x06"), opt(3, "\x08"), opt(3, "\x09")}, 8, true},
	} {
		if n, ok := opts.Scale(x.l); n != x.want || ok != x.ok {
			t.Errorf("Scale(%v) = %d, %v, want %d, %v", x.l, n, ok, x.want, x.ok)
		}
	}
}

func TestSackOk(t *testing.T) { // P5.3
	for _, x := range []struct {
		l    []api.Opt
		want bool
	}{
		{nil, false}, {[]api.Opt{}, false},
		{[]api.Opt{opt(4, "")}, true}, {[]api.Opt{{Kind: 4}}, true},
		{[]api.Opt{opt(4, "a")}, false}, {[]api.Opt{opt(4, "ab")}, false}, {[]api.Opt{opaque(4, 256)}, false},
		{[]api.Opt{{}, {Kind: 1}, {Kind: 2}, {Kind: 3}, {Kind: 5}, {Kind: 132}}, false},
		{[]api.Opt{opt(4, "a"), opt(2, "ab"), opt(4, "")}, true},
		{[]api.Opt{opt(4, ""), opt(4, "a")}, true},
	} {
		if got := opts.SackOk(x.l); got != x.want {
			t.Errorf("SackOk(%v) = %v", x.l, got)
		}
	}
}

func TestSacks(t *testing.T) { // P5.3
	for n := range 50 {
		got := opts.Sacks([]api.Opt{opaque(5, n)})
		if n >= 8 && n <= 32 && n%8 == 0 {
			if len(got) != n/8 || got[0] != (opts.Block{From: 0x5a5a5a5a, To: 0x5a5a5a5a}) {
				t.Errorf("Data of %d: %v", n, got)
			}
		} else if len(got) != 0 {
			t.Errorf("Data of %d: %v", n, got)
		}
	}
	for n := 1; n <= 4; n++ {
		data, want := blocksOf(n)
		wrong := []api.Opt{opt(4, data), opt(6, data), opt(133, data), opt(5, ""), opt(5, data[1:]), opt(5, data+"x"), opaque(5, 40), opaque(5, 8+256)}
		if got := opts.Sacks(wrong); len(got) != 0 {
			t.Errorf("none is one: %v", got)
		}
		l := append(wrong, opt(5, data), opaque(5, 8), opaque(5, 32))
		before := cloned(l)
		if got := opts.Sacks(l); !slices.Equal(got, want) {
			t.Errorf("%d blocks: %v, want %v", n, got, want)
		}
		if !same(l, before) {
			t.Errorf("%v became %v", before, l)
		}
	}
	if got := opts.Sacks([]api.Opt{opt(5, "\x00\x00\x00\x01\x00\x00\x00\x05"), opt(5, "\xff\xff\xff\xff\x80\x00\x00\x00")}); !slices.Equal(got, []opts.Block{{From: 1, To: 5}}) {
		t.Errorf("two options of blocks: %v", got)
	}
	if got := opts.Sacks(nil); len(got) != 0 {
		t.Errorf("Sacks(nil) = %v", got)
	}
}

func TestWithMss(t *testing.T) { // P5.4, P5.6
	for n := range 1 << 16 {
		o := opts.WithMss(uint16(n))
		if o.Kind != 2 || !bytes.Equal(o.Data, []byte{byte(n >> 8), byte(n)}) {
			t.Errorf("WithMss(%d) = %v", n, o)
		}
		if got, ok := opts.Mss([]api.Opt{o}); int(got) != n || !ok {
			t.Errorf("of WithMss(%d): %d, %v", n, got, ok)
		}
	}
}

func TestWithScale(t *testing.T) { // P5.4, P5.6
	few := []int{math.MinInt, -1 << 32, -256, -14, -1, 15, 16, 255, 256, 257, 263, 1 << 32, 1<<32 + 7, math.MaxInt}
	for n := range 15 {
		few = append(few, n)
	}
	for _, n := range few {
		want := max(0, min(n, 14))
		o := opts.WithScale(n)
		if o.Kind != 3 || !bytes.Equal(o.Data, []byte{byte(want)}) {
			t.Errorf("WithScale(%d) = %v", n, o)
		}
		if got, ok := opts.Scale([]api.Opt{o}); got != want || !ok {
			t.Errorf("of WithScale(%d): %d, %v", n, got, ok)
		}
	}
}

func TestPermitSack(t *testing.T) { // P5.4, P5.6
	o := opts.PermitSack()
	if o.Kind != 4 || len(o.Data) != 0 {
		t.Errorf("PermitSack() = %v", o)
	}
	if !opts.SackOk([]api.Opt{o}) {
		t.Error("it is not found")
	}
}

func TestWithSacks(t *testing.T) { // P5.4, P5.6
	for n := 1; n <= 4; n++ {
		data, l := blocksOf(n)
		before := slices.Clone(l)
		o, e := opts.WithSacks(l)
		if e != api.OK || o.Kind != 5 || string(o.Data) != data {
			t.Errorf("WithSacks(%v) = %v, %d", l, o, e)
		}
		if got := opts.Sacks([]api.Opt{o}); !slices.Equal(got, l) || !slices.Equal(before, l) {
			t.Errorf("of WithSacks(%v): %v", l, got)
		}
	}
	for _, x := range []struct {
		l []opts.Block
		e api.Errno
	}{
		{nil, api.ErrArg}, {[]opts.Block{}, api.ErrArg},
		{make([]opts.Block, 5), api.ErrLong}, {make([]opts.Block, 6), api.ErrLong}, {make([]opts.Block, 1<<16), api.ErrLong},
	} {
		if o, e := opts.WithSacks(x.l); e != x.e || o.Kind != 0 || len(o.Data) != 0 {
			t.Errorf("WithSacks of %d = %v, %d, want %d", len(x.l), o, e, x.e)
		}
	}
	// Any block may be told, an empty one and one that goes round, too.
	for _, b := range []opts.Block{{}, {From: 5, To: 5}, {From: 9, To: 1}, {From: math.MaxUint32, To: 3}, {From: 0, To: math.MaxUint32}} {
		o, e := opts.WithSacks([]opts.Block{b})
		if got := opts.Sacks([]api.Opt{o}); e != api.OK || !slices.Equal(got, []opts.Block{b}) {
			t.Errorf("of WithSacks(%v): %v, %d", b, got, e)
		}
	}
}

func TestWithIsNew(t *testing.T) { // R3
	for _, with := range []func() api.Opt{
		func() api.Opt { return opts.WithMss(0x0506) },
		func() api.Opt { return opts.WithScale(7) },
		func() api.Opt { o, _ := opts.WithSacks([]opts.Block{{From: 1, To: 5}}); return o },
	} {
		a, b := with(), with()
		before := bytes.Clone(b.Data)
		clear(a.Data[:cap(a.Data)])
		if !bytes.Equal(b.Data, before) || !bytes.Equal(with().Data, before) {
			t.Errorf("what was told became %v", b)
		}
	}
}

func TestBack(t *testing.T) { // P5.5
	var c chance = 2
	for range 20000 {
		l := c.options()
		b := put(t, l)
		if len(b) > 40 || len(b)%4 != 0 {
			t.Errorf("Put(%v) = % x", l, b)
		}
		parsed(t, "put", b, l, api.OK)
	}
}

func TestForth(t *testing.T) { // P5.5
	var c chance = 3
	well := 0
	for range 50000 {
		b := c.bytes(int(c.next() % 41))
		for i := range b {
			b[i] %= 6
		}
		l, e := opts.Parse(b)
		if e != api.OK {
			continue
		}
		well++
		parsed(t, "put again", put(t, l), l, api.OK)
	}
	if well < 1000 {
		t.Errorf("only %d were options", well)
	}
	// All bytes are taken by options, and by what is passed over.
	for _, b := range [][]byte{append([]byte{9, 40}, make([]byte, 38)...), bytes.Repeat([]byte{1, 3, 3, 7}, 10), bytes.Repeat([]byte{4, 2}, 20)} {
		l, e := opts.Parse(b)
		if e != api.OK {
			t.Errorf("Parse(% x) = %d", b, e)
		}
		parsed(t, "put again", put(t, l), l, api.OK)
	}
}

func TestFoundAndNotFound(t *testing.T) { // P5.6
	_, blocks := blocksOf(4)
	with, _ := opts.WithSacks(blocks)
	all := []api.Opt{opaque(9, 3), opts.WithMss(1460), opts.PermitSack(), opts.WithScale(7), with, opaque(8, 0)}
	check := func(l []api.Opt, without byte) {
		t.Helper()
		if n, ok := opts.Mss(l); ok != (without != 2) || ok && n != 1460 || !ok && n != 0 {
			t.Errorf("without %d: Mss %d, %v", without, n, ok)
		}
		if n, ok := opts.Scale(l); ok != (without != 3) || ok && n != 7 || !ok && n != 0 {
			t.Errorf("without %d: Scale %d, %v", without, n, ok)
		}
		if ok := opts.SackOk(l); ok != (without != 4) {
			t.Errorf("without %d: SackOk %v", without, ok)
		}
		want := blocks
		if without == 5 {
			want = nil
		}
		if got := opts.Sacks(l); !slices.Equal(got, want) {
			t.Errorf("without %d: Sacks %v", without, got)
		}
	}
	for kind := range 10 {
		l := opts.Without(all, byte(kind))
		check(l, byte(kind))
		if slices.ContainsFunc(l, func(o api.Opt) bool { return o.Kind == byte(kind) }) {
			t.Errorf("without %d: %v", kind, l)
		}
	}
	// Through the bytes, too: those of all are too many, those without SACK's are not.
	unput(t, "all", all, api.ErrLong)
	l, e := opts.Parse(put(t, opts.Without(all, 5)))
	if e != api.OK {
		t.Fatal(e)
	}
	check(l, 5)
}

func TestExamples(t *testing.T) {
	l, e := opts.Parse([]byte{2, 4, 5, 0xb4, 1, 1, 4, 2})
	if n, ok := opts.Mss(l); e != api.OK || len(l) != 2 || n != 1460 || !ok || !opts.SackOk(l) {
		t.Error("MSS 1460, SACK permitted:", l, e)
	}
	l, e = opts.Parse([]byte{3, 3, 7, 0})
	if n, ok := opts.Scale(l); e != api.OK || len(l) != 1 || n != 7 || !ok {
		t.Error("scale 7:", l, e)
	}
	l, e = opts.Parse([]byte{5, 10, 0, 0, 0, 1, 0, 0, 0, 5})
	if got := opts.Sacks(l); e != api.OK || len(l) != 1 || !slices.Equal(got, []opts.Block{{From: 1, To: 5}}) {
		t.Error("a block from 1 to 5:", l, e)
	}
	refused(t, "02 04 05", []byte{2, 4, 5}, api.ErrShort)
	refused(t, "02 01", []byte{2, 1}, api.ErrForm)
	refused(t, "00 02", []byte{0, 2}, api.ErrForm)
	if b := put(t, []api.Opt{opts.WithScale(7)}); string(b) != "\x03\x03\x07\x00" {
		t.Errorf("scale 7: % x", b)
	}
}
