package tcp_test

import (
	"bytes"
	"math"
	"slices"
	"testing"

	"culvert/api"
	"culvert/tcp"
)

// Addresses between which most segments of these tests go.
const (
	src = 0x0a010203
	dst = 0xcb007109
)

// chance makes bytes that look like chance, always the same ones.
type chance uint64

func (c *chance) next() uint64 {
	*c = *c*6364136223846793005 + 1442695040888963407
	return uint64(*c) >> 32
}

func (c *chance) bytes(n int) []byte {
	out := make([]byte, n)
	for i := range out {
		out[i] = byte(c.next())
	}
	return out
}

// options makes options that may be, of at most 40 bytes.
func (c *chance) options() []api.Opt {
	var l []api.Opt
	for left := int(c.next() % 41); left >= 2; {
		n := int(c.next() % uint64(left-1))
		l = append(l, api.Opt{Kind: byte(2 + c.next()%254), Data: c.bytes(n)})
		left -= 2 + n
	}
	return l
}

// segment makes a segment that may be, with n bytes of Data, at most 1420.
func (c *chance) segment(n int) api.Segment {
	return api.Segment{
		SPort: uint16(c.next()), DPort: uint16(c.next()), Seq: uint32(c.next()), Ack: uint32(c.next()),
		Flags: byte(c.next()), Win: uint16(c.next()), Urg: uint16(c.next()),
		Opts: c.options(), Data: c.bytes(n),
	}
}

// full is a segment of which nothing is 0.
func full() api.Segment {
	return api.Segment{
		SPort: 0x1234, DPort: 0x5678, Seq: 0x9abcdef0, Ack: 0x13579bdf, Flags: 0xff, Win: 0x2468, Urg: 0xace1,
		Opts: []api.Opt{opt(2, "\x05\xb4"), opt(4, ""), opt(9, "abc")}, Data: []byte("hello"),
	}
}

// opt is an option of a kind and a text as its Data.
func opt(kind byte, data string) api.Opt {
	return api.Opt{Kind: kind, Data: []byte(data)}
}

// opaque is an option of a kind and n bytes of Data.
func opaque(kind byte, n int) api.Opt {
	return api.Opt{Kind: kind, Data: bytes.Repeat([]byte{0x5a}, n)}
}

// cloned is a copy of s that has no memory in common with it.
func cloned(s api.Segment) api.Segment {
	s.Data, s.Opts = bytes.Clone(s.Data), slices.Clone(s.Opts)
	for i := range s.Opts {
		s.Opts[i].Data = bytes.Clone(s.Opts[i].Data)
	}
	return s
}

// same holds segments against each other in another way than the program's.
func same(a, b api.Segment) bool {
	numbers := func(s api.Segment) [7]uint32 {
		return [7]uint32{uint32(s.SPort), uint32(s.DPort), s.Seq, s.Ack, uint32(s.Flags), uint32(s.Win), uint32(s.Urg)}
	}
	if numbers(a) != numbers(b) || len(a.Opts) != len(b.Opts) || string(a.Data) != string(b.Data) {
		return false
	}
	for i := range a.Opts {
		if a.Opts[i].Kind != b.Opts[i].Kind || string(a.Opts[i].Data) != string(b.Opts[i].Data) {
			return false
		}
	}
	return true
}

// added is the sum of the pseudo header and of b, modulo ffff, worked out in
// another way than the program's.
func added(from, to uint32, b []byte) uint32 {
	all := uint64(from>>16+from&0xffff) + uint64(to>>16+to&0xffff) + 6 + uint64(len(b))
	for i, x := range b {
		all += uint64(x) << (8 * (1 - i%2))
	}
	return uint32(all % 0xffff)
}

// righted lays the right field into b, which has at least 18 bytes.
func righted(b []byte) []byte {
	b[16], b[17] = 0, 0
	all := added(src, dst, b)
	if all == 0 { // the sum is ffff, as not all is 0
		return b
	}
	b[16], b[17] = ^byte(all>>8), ^byte(all)
	return b
}

// laid is bytes with the right field, which need be no segment's: offset is
// the whole byte of the offset, and rest is behind the first 20 bytes.
func laid(offset byte, rest string) []byte {
	b := []byte{
		0x0f, 0xa0, 0, 80, 1, 2, 3, 4, 5, 6, 7, 8, offset, api.Ack | api.Psh, 0xfa, 0xf0, 0, 0, 0, 9,
	}
	return righted(append(b, rest...))
}

// noughts are n bytes of 00.
func noughts(n int) string {
	return string(make([]byte, n))
}

// plain is the segment of laid's first 20 bytes.
func plain(l []api.Opt, data string) api.Segment {
	return api.Segment{
		SPort: 4000, DPort: 80, Seq: 0x01020304, Ack: 0x05060708, Flags: api.Ack | api.Psh, Win: 64240, Urg: 9,
		Opts: l, Data: []byte(data),
	}
}

// wrongSum makes the field of b wrong.
func wrongSum(b []byte) []byte {
	b[17] ^= 1
	return b
}

// put tells Put's bytes, which must be there.
func put(t *testing.T, s api.Segment) []byte {
	t.Helper()
	before := cloned(s)
	b, e := tcp.Put(src, dst, s)
	if e != api.OK || !tcp.May(s) {
		t.Fatalf("Put(%+v) = %d, May = %v", s, e, tcp.May(s))
	}
	if !same(s, before) {
		t.Errorf("%+v became %+v", before, s)
	}
	return b
}

// unput holds Put's error against want, beside which nothing is told.
func unput(t *testing.T, name string, s api.Segment, want api.Errno) {
	t.Helper()
	if b, e := tcp.Put(src, dst, s); e != want || len(b) != 0 {
		t.Errorf("%s: Put = % x, %d, want %d", name, b, e, want)
	}
	if tcp.May(s) {
		t.Errorf("%s: it may be", name)
	}
}

// accept holds Parse's answer against s.
func accept(t *testing.T, name string, b []byte, s api.Segment) {
	t.Helper()
	before := bytes.Clone(b)
	got, e := tcp.Parse(src, dst, b)
	if e != api.OK || !same(got, s) {
		t.Errorf("%s: Parse(% x) = %+v, %d, want %+v", name, b, got, e, s)
	}
	if !bytes.Equal(b, before) {
		t.Errorf("%s: % x became % x", name, before, b)
	}
}

// refuse holds Parse's error against want, beside which nothing is told.
func refuse(t *testing.T, name string, b []byte, want api.Errno) {
	t.Helper()
	before := bytes.Clone(b)
	s, e := tcp.Parse(src, dst, b)
	if e != want || !same(s, api.Segment{}) {
		t.Errorf("%s: Parse(% x) = %+v, %d, want %d", name, b, s, e, want)
	}
	if !bytes.Equal(b, before) {
		t.Errorf("%s: % x became % x", name, before, b)
	}
}

func TestMay(t *testing.T) { // P6.1
	for _, x := range []struct {
		name string
		s    api.Segment
		want bool
	}{
		{"zero", api.Segment{}, true},
		{"full", full(), true},
		{"empty lists", api.Segment{Opts: []api.Opt{}, Data: []byte{}}, true},
		{"all numbers greatest", api.Segment{SPort: math.MaxUint16, DPort: math.MaxUint16, Seq: math.MaxUint32, Ack: math.MaxUint32, Flags: 255, Win: math.MaxUint16, Urg: math.MaxUint16}, true},
		{"end", api.Segment{Opts: []api.Opt{{}}}, false},
		{"nothing", api.Segment{Opts: []api.Opt{{Kind: 1}}}, false},
		{"end behind others", api.Segment{Opts: []api.Opt{{Kind: 4}, {Kind: 0}}}, false},
		{"Data of 38", api.Segment{Opts: []api.Opt{opaque(9, 38)}}, true},
		{"Data of 39", api.Segment{Opts: []api.Opt{opaque(9, 39)}}, false},
		{"40 bytes of options", api.Segment{Opts: slices.Repeat([]api.Opt{{Kind: 4}}, 20)}, true},
		{"42 bytes of options", api.Segment{Opts: slices.Repeat([]api.Opt{{Kind: 4}}, 21)}, false},
	} {
		if got := tcp.May(x.s); got != x.want {
			t.Errorf("%s: %v, want %v", x.name, got, x.want)
		}
	}
}

func TestSame(t *testing.T) { // P6.1
	all := []api.Segment{full(), {}}
	for _, change := range []func(s *api.Segment){
		func(s *api.Segment) { s.SPort++ },
		func(s *api.Segment) { s.DPort ^= 1 << 15 },
		func(s *api.Segment) { s.SPort, s.DPort = s.DPort, s.SPort },
		func(s *api.Segment) { s.Seq ^= 1 << 31 },
		func(s *api.Segment) { s.Ack-- },
		func(s *api.Segment) { s.Seq, s.Ack = s.Ack, s.Seq },
		func(s *api.Segment) { s.Flags ^= 0x80 },
		func(s *api.Segment) { s.Win ^= 1 << 15 },
		func(s *api.Segment) { s.Urg++ },
		func(s *api.Segment) { s.Win, s.Urg = s.Urg, s.Win },
		func(s *api.Segment) { s.Opts = nil },
		func(s *api.Segment) { s.Opts = s.Opts[:2] },
		func(s *api.Segment) { s.Opts[0], s.Opts[1] = s.Opts[1], s.Opts[0] },
		func(s *api.Segment) { s.Opts[1].Kind = 8 },
		func(s *api.Segment) { s.Opts[2].Data[2]++ },
		func(s *api.Segment) { s.Opts = append(s.Opts, api.Opt{}) },
		func(s *api.Segment) { s.Data = nil },
		func(s *api.Segment) { s.Data = s.Data[:4] },
		func(s *api.Segment) { s.Data = append(s.Data, 0) },
		func(s *api.Segment) { s.Data[0]++ },
		func(s *api.Segment) { s.Data[4]++ },
	} {
		s := full()
		change(&s)
		all = append(all, s)
	}
	for i, a := range all {
		for k, b := range all {
			if got := tcp.Same(cloned(a), cloned(b)); got != (i == k) {
				t.Errorf("Same(%+v, %+v) = %v", a, b, got)
			}
		}
	}
	// nil and empty are one (R4).
	empty := api.Segment{Opts: []api.Opt{}, Data: []byte{}}
	if !tcp.Same(api.Segment{}, empty) || !tcp.Same(empty, api.Segment{}) {
		t.Error("no Opts and no Data are not the same as empty ones")
	}
	// Also of those that may not be.
	long := api.Segment{Opts: []api.Opt{{}, opaque(1, 300)}, Data: make([]byte, 2000)}
	if !tcp.Same(long, cloned(long)) {
		t.Error("two of the same that may not be are not the same")
	}
}

func TestLength(t *testing.T) { // P6.1
	for flags := range 256 {
		for _, n := range []int{0, 1, 2, 1460, 1461, 1 << 16, 1 << 20} {
			want := uint32(n + flags&1 + flags>>1&1) // Fin is 1, Syn is 2
			s := full()
			s.Flags, s.Data = byte(flags), make([]byte, n)
			if got := tcp.Length(s); got != want {
				t.Errorf("Flags %02x, Data of %d: %d, want %d", flags, n, got, want)
			}
		}
	}
	if n := tcp.Length(api.Segment{Opts: []api.Opt{{}}, Urg: 7}); n != 0 {
		t.Errorf("of nothing but options and Urg: %d", n)
	}
}

func TestPutBytes(t *testing.T) { // P6.2
	for _, x := range []struct {
		name     string
		from, to uint32
		s        api.Segment
		want     string
	}{
		{"zero", 0, 0, api.Segment{}, "\x00\x00\x00\x00\x00\x00\x00\x00\x00\x00\x00\x00\x50\x00\x00\x00\xaf\xe5\x00\x00"},
		{"full", src, dst, full(), "\x12\x34\x56\x78\x9a\xbc\xde\xf0\x13\x57\x9b\xdf\x80\xff\x24\x68\xb6\xf8\xac\xe1" +
			"\x02\x04\x05\xb4\x04\x02\x09\x05abc\x00hello"},
		{"each number of its own", 0x01020304, 0x05060708, api.Segment{SPort: 0x0102, DPort: 0x0304, Seq: 0x05060708, Ack: 0x090a0b0c, Flags: 0x0d, Win: 0x0e0f, Urg: 0x1011},
			"\x01\x02\x03\x04\x05\x06\x07\x08\x09\x0a\x0b\x0c\x50\x0d\x0e\x0f\x5d\x7a\x10\x11"},
		{"a last byte alone", 0, 0, api.Segment{Data: []byte{0xab}}, "\x00\x00\x00\x00\x00\x00\x00\x00\x00\x00\x00\x00\x50\x00\x00\x00\x04\xe4\x00\x00\xab"},
		{"options that fill no whole 4", 0, 0, api.Segment{Opts: []api.Opt{opt(3, "\x07")}, Data: []byte{1}},
			"\x00\x00\x00\x00\x00\x00\x00\x00\x00\x00\x00\x00\x60\x00\x00\x00\x94\xdd\x00\x00\x03\x03\x07\x00\x01"},
		// Words of which all but the field add up to ffff: the field is 0000.
		{"field 0000", 0, 0, api.Segment{Urg: 0xafe5}, "\x00\x00\x00\x00\x00\x00\x00\x00\x00\x00\x00\x00\x50\x00\x00\x00\x00\x00\xaf\xe5"},
	} {
		b, e := tcp.Put(x.from, x.to, x.s)
		if e != api.OK || string(b) != x.want {
			t.Errorf("%s: % x, %d, want % x", x.name, b, e, x.want)
		}
		if s, e := tcp.Parse(x.from, x.to, []byte(x.want)); e != api.OK || !same(s, x.s) {
			t.Errorf("%s: Parse = %+v, %d", x.name, s, e)
		}
	}
}

func TestPutLengths(t *testing.T) { // P6.1, P6.2
	for n := -2; n <= 38; n++ { // how much Data the one option has; -2: there is none
		var l []api.Opt
		block := 0
		if n >= 0 {
			l, block = []api.Opt{opaque(77, n)}, (n+5)/4*4
		}
		most := 1480 - 20 - block
		for _, k := range []int{0, 1, 2, 3, 235, 236, 1000, most - 1, most} {
			s := api.Segment{Win: 0xffff, Opts: l, Data: bytes.Repeat([]byte{0xa5}, k)}
			b := put(t, s)
			if len(b) != 20+block+k || int(b[12]) != (20+block)/4<<4 || !bytes.Equal(b[20+block:], s.Data) {
				t.Errorf("options of %d, Data of %d: % x", block, k, b)
			}
			if added(src, dst, b) != 0 {
				t.Errorf("options of %d, Data of %d: the field is %02x%02x", block, k, b[16], b[17])
			}
		}
		for _, k := range []int{most + 1, most + 2, 1480, 1481, 1500, 1 << 16, 1<<16 + 1, 1 << 20} {
			unput(t, "too many", api.Segment{Opts: l, Data: make([]byte, k)}, api.ErrLong)
		}
	}
}

func TestPutOfWhatMayNotBe(t *testing.T) { // P6.2: ErrArg comes ahead of ErrLong
	tooMany := slices.Repeat([]api.Opt{opaque(9, 38)}, 2)
	for _, wrong := range []api.Opt{{}, {Kind: 1}, opaque(0, 2), opaque(1, 38), opaque(2, 39), opaque(255, 39), opaque(9, 40), opaque(9, 1<<16)} {
		for _, n := range []int{0, 1, 1460, 1461, 2000} {
			data := make([]byte, n)
			unput(t, "alone", api.Segment{Opts: []api.Opt{wrong}, Data: data}, api.ErrArg)
			unput(t, "last", api.Segment{Opts: []api.Opt{{Kind: 4}, wrong}, Data: data}, api.ErrArg)
			unput(t, "ahead of too many", api.Segment{Opts: append([]api.Opt{wrong}, tooMany...), Data: data}, api.ErrArg)
			unput(t, "behind too many", api.Segment{Opts: append(slices.Clone(tooMany), wrong), Data: data}, api.ErrArg)
		}
	}
	for _, n := range []int{0, 1, 1460, 1461} {
		unput(t, "too many options", api.Segment{Opts: tooMany, Data: make([]byte, n)}, api.ErrLong)
		unput(t, "42 bytes of options", api.Segment{Opts: slices.Repeat([]api.Opt{{Kind: 4}}, 21), Data: make([]byte, n)}, api.ErrLong)
	}
}

func TestPutIsNew(t *testing.T) { // R3
	all := []byte("abcdefgh")
	s := api.Segment{Opts: []api.Opt{{Kind: 9, Data: all[:2]}}, Data: all[2:4]} // with room behind both
	b := put(t, s)
	other := put(t, s)
	clear(b[:cap(b)])
	if string(all) != "abcdefgh" {
		t.Errorf("what was handed in became %q", all)
	}
	clear(all)
	if string(other[20:]) != "\x09\x04abcd" {
		t.Errorf("what was told became % x", other)
	}
}

func TestParse(t *testing.T) { // P6.3
	accept(t, "bare", laid(0x50, ""), plain(nil, ""))
	accept(t, "Data", laid(0x50, "abc"), plain(nil, "abc"))
	accept(t, "longest", laid(0x50, noughts(1460)), plain(nil, noughts(1460)))
}

func TestParseOptions(t *testing.T) { // P6.3
	for _, x := range []struct {
		offset byte
		rest   string
		want   api.Segment
	}{
		{0x60, "\x02\x04\x05\xb4", plain([]api.Opt{opt(2, "\x05\xb4")}, "")},
		{0x60, "\x00\x00\x00\x00", plain(nil, "")},
		{0x60, "\x01\x01\x01\x01abc", plain(nil, "abc")},
		{0x70, "\x01\x01\x09\x03x\x00\x00\x00", plain([]api.Opt{opt(9, "x")}, "")},
		{0x60, "\x04\x02\x09\x02\x00\x01", plain([]api.Opt{opt(4, ""), opt(9, "")}, "\x00\x01")},
		// What is behind the offset is Data, whatever it looks like.
		{0x50, "\x02\x04\x05\xb4", plain(nil, "\x02\x04\x05\xb4")},
		{0x50, "\x02\x00", plain(nil, "\x02\x00")},
		{0xf0, "\x09\x28" + string(bytes.Repeat([]byte{7}, 38)) + "z", plain([]api.Opt{opt(9, string(bytes.Repeat([]byte{7}, 38)))}, "z")},
	} {
		accept(t, "options", laid(x.offset, x.rest), x.want)
		// The lower four bits beside the offset are not looked at.
		for low := range byte(16) {
			accept(t, "lower bits", laid(x.offset|low, x.rest), x.want)
		}
	}
	for flags := range 256 {
		b := laid(0x50, "")
		b[13] = byte(flags)
		want := plain(nil, "")
		want.Flags = byte(flags)
		accept(t, "flags", righted(b), want)
	}
}

func TestParseIsNew(t *testing.T) { // R3
	b := laid(0x70, "\x09\x04ab\x08\x04cdefg")
	before := bytes.Clone(b)
	want := plain([]api.Opt{opt(9, "ab"), opt(8, "cd")}, "efg")
	s, _ := tcp.Parse(src, dst, b)
	other, _ := tcp.Parse(src, dst, b)
	for _, o := range s.Opts {
		clear(o.Data[:cap(o.Data)])
	}
	if string(s.Data) != "efg" {
		t.Errorf("Opts and Data share memory: % x", s.Data)
	}
	clear(s.Data[:cap(s.Data)])
	if !bytes.Equal(b, before) {
		t.Errorf("what was handed in became % x", b)
	}
	clear(b)
	if !same(other, want) {
		t.Errorf("what was told became %+v", other)
	}
}

func TestParseLengths(t *testing.T) { // P6.3: ErrLong, ErrShort
	refuse(t, "nil", nil, api.ErrShort)
	refuse(t, "none", []byte{}, api.ErrShort)
	for n := range 20 {
		refuse(t, "a beginning", laid(0x50, "")[:n], api.ErrShort)
		refuse(t, "noughts", make([]byte, n), api.ErrShort)
		refuse(t, "ff", bytes.Repeat([]byte{0xff}, n), api.ErrShort)
	}
	for _, n := range []int{1481, 1482, 1500, 1 << 16, 1 << 20} {
		refuse(t, "noughts", make([]byte, n), api.ErrLong)
		refuse(t, "ff", bytes.Repeat([]byte{0xff}, n), api.ErrLong)
		refuse(t, "a right one", laid(0x50, noughts(n-20)), api.ErrLong)
	}
	for quarter := 6; quarter <= 15; quarter++ {
		for n := range 4*quarter - 20 {
			refuse(t, "fewer than it says", laid(byte(quarter)<<4, noughts(n)), api.ErrShort)
		}
		accept(t, "as many as it says", laid(byte(quarter)<<4, noughts(4*quarter-20)), plain(nil, ""))
	}
}

func TestParseForm(t *testing.T) { // P6.3: ErrForm
	for offset := range 0x50 {
		refuse(t, "offset", laid(byte(offset), ""), api.ErrForm)
		refuse(t, "offset", laid(byte(offset), noughts(40)), api.ErrForm)
		refuse(t, "offset", laid(byte(offset), noughts(1460)), api.ErrForm)
	}
	for _, x := range []struct {
		offset byte
		rest   string
	}{
		{0x60, "\x02\x05\x05\xb4"}, // an option that does not end: opts.Parse tells ErrShort
		{0x60, "\x01\x01\x01\x02"},
		{0x60, "\x02\x01\x00\x00"}, // a length below 2
		{0x60, "\x02\x00\x00\x00"},
		{0x60, "\x00\x00\x00\x01"}, // a byte behind the end
		{0x60, "\x00\x04\x02\x00"},
		{0x70, "\x02\x04\x05\xb4\x03\x03\x07\x08"},
		{0x60, "\x02\x05\x05\xb4\x07more"}, // it would end within the Data
		{0xf0, "\x09\x29" + noughts(39)},
	} {
		refuse(t, "options", laid(x.offset, x.rest), api.ErrForm)
	}
}

func TestWrongSum(t *testing.T) { // P6.3: ErrSum
	good := laid(0x60, "\x04\x02\x01\x01abc")
	want := plain([]api.Opt{opt(4, "")}, "abc")
	field := int(good[16])<<8 | int(good[17])
	for f := range 1 << 16 {
		b := bytes.Clone(good)
		b[16], b[17] = byte(f>>8), byte(f)
		if f != field {
			refuse(t, "field", b, api.ErrSum)
		}
	}
	accept(t, "field", good, want)
	for i := range good {
		if i != 12 {
			b := bytes.Clone(good)
			b[i]++
			refuse(t, "byte", b, api.ErrSum)
		}
	}
	// The pseudo header has a part in it: the addresses, and how many bytes.
	for _, x := range [][2]uint32{{src + 1, dst}, {src, dst ^ 1<<31}, {src ^ 1<<16, dst}, {0, 0}, {dst, dst}, {src, src}} {
		if s, e := tcp.Parse(x[0], x[1], good); e != api.ErrSum || !same(s, api.Segment{}) {
			t.Errorf("between %x and %x: %+v, %d", x[0], x[1], s, e)
		}
	}
	refuse(t, "a byte of 00 more", append(bytes.Clone(good), 0), api.ErrSum)
	// 0000 and ffff stand for each other.
	b := laid(0x50, "")
	b[18], b[19] = 0, 0
	righted(b)
	b[18], b[19], b[16], b[17] = b[16], b[17], 0, 0 // the Urg makes them right
	s := plain(nil, "")
	s.Urg = uint16(b[18])<<8 | uint16(b[19])
	accept(t, "field 0000", b, s)
	b[16], b[17] = 0xff, 0xff
	accept(t, "field ffff", b, s)
}

func TestOrder(t *testing.T) { // P6.3: of two things that are wrong, the one named first
	for _, x := range []struct {
		name string
		b    []byte
		want api.Errno
	}{
		{"too many, offset", laid(0x40, noughts(1461)), api.ErrLong},
		{"too many, sum", wrongSum(laid(0x50, noughts(1461))), api.ErrLong},
		{"too many, options", laid(0x60, "\x02\x01"+noughts(1459)), api.ErrLong},
		{"below 20, offset", laid(0x40, "")[:19], api.ErrShort},
		{"below 20, no offset yet", laid(0x40, "")[:12], api.ErrShort},
		{"offset, sum", wrongSum(laid(0x40, "")), api.ErrForm},
		{"offset 0, sum", wrongSum(laid(0x00, "\x02\x01")), api.ErrForm},
		{"fewer than it says, sum", wrongSum(laid(0x60, "")), api.ErrShort},
		{"fewer than it says, options", laid(0x70, "\x02\x01\x00\x00"), api.ErrShort},
		{"fewer by one, sum, options", wrongSum(laid(0x60, "\x02\x01\x00")), api.ErrShort},
		{"sum, option's length", wrongSum(laid(0x60, "\x02\x01\x00\x00")), api.ErrSum},
		{"sum, option that does not end", wrongSum(laid(0x60, "\x02\x05\x00\x00")), api.ErrSum},
		{"sum, behind an end", wrongSum(laid(0x60, "\x00\x00\x00\x01")), api.ErrSum},
	} {
		refuse(t, x.name, x.b, x.want)
	}
}

// told is Parse's error, in another way than the program's: place by place.
func told(b []byte) api.Errno {
	switch ahead := 0; {
	case len(b) > 1480:
		return api.ErrLong
	case len(b) < 20:
		return api.ErrShort
	default:
		ahead = int(b[12]) / 16 * 4
		if ahead < 20 {
			return api.ErrForm
		}
		if len(b) < ahead {
			return api.ErrShort
		}
		if added(src, dst, b) != 0 {
			return api.ErrSum
		}
		return form(b[20:ahead])
	}
}

// form is ErrForm, if options' bytes are none.
func form(b []byte) api.Errno {
	for len(b) > 0 {
		switch {
		case b[0] == 0:
			if len(bytes.Trim(b, "\x00")) > 0 {
				return api.ErrForm
			}
			return api.OK
		case b[0] == 1:
			b = b[1:]
		case len(b) == 1 || b[1] < 2 || int(b[1]) > len(b):
			return api.ErrForm
		default:
			b = b[b[1]:]
		}
	}
	return api.OK
}

// anything makes bytes that come as far as chance has it.
func (c *chance) anything() []byte {
	b := c.bytes(int(c.next() % 90))
	if c.next()%50 == 0 {
		b = c.bytes(1470 + int(c.next()%20))
	}
	for i := 20; i < len(b); i++ {
		if c.next()%4 > 0 {
			b[i] %= 5
		}
	}
	if len(b) >= 20 && c.next()%4 > 0 {
		righted(b)
	}
	return b
}

func TestParseOfAnything(t *testing.T) { // P6.3, R1, R2
	var c chance = 4
	seen := map[api.Errno]int{}
	for range 50000 {
		b := c.anything()
		want := told(b)
		seen[want]++
		if want != api.OK {
			refuse(t, "chance", b, want)
		} else if _, e := tcp.Parse(src, dst, b); e != api.OK {
			t.Errorf("Parse(% x) = %d", b, e)
		}
	}
	for _, e := range []api.Errno{api.OK, api.ErrLong, api.ErrShort, api.ErrForm, api.ErrSum} {
		if seen[e] < 100 {
			t.Errorf("%d came %d times", e, seen[e])
		}
	}
}

func TestBack(t *testing.T) { // P6.4
	var c chance = 1
	for range 3000 {
		s := c.segment(int(c.next() % 1421))
		b := put(t, s)
		accept(t, "put", b, s)
		if again := put(t, s); !bytes.Equal(again, b) {
			t.Errorf("%+v: once % x, then % x", s, b, again)
		}
		// Between any addresses.
		from, to := uint32(c.next()), uint32(c.next())
		b, e := tcp.Put(from, to, s)
		got, f := tcp.Parse(from, to, b)
		if e != api.OK || f != api.OK || !same(got, s) {
			t.Errorf("%+v between %x and %x: %d, %+v, %d", s, from, to, e, got, f)
		}
	}
}

func TestForth(t *testing.T) { // P6.4: Parse, of what Put tells of what Parse told
	var c chance = 2
	n := 0
	for range 50000 {
		s, e := tcp.Parse(src, dst, c.anything())
		if e != api.OK {
			continue
		}
		n++
		accept(t, "again", put(t, s), s)
	}
	if n < 1000 {
		t.Errorf("only %d were segments", n)
	}
	// What says nothing is left out, and the segment is the same.
	b := laid(0x7f, "\x01\x01\x04\x02\x01\x00\x00\x00abc")
	s, _ := tcp.Parse(src, dst, b)
	if again := put(t, s); !bytes.Equal(again, laid(0x60, "\x04\x02\x00\x00abc")) {
		t.Errorf("% x becomes % x", b, again)
	}
}

func TestOtherAddresses(t *testing.T) { // P6.4
	var c chance = 5
	sums := func(from, to uint32) uint32 { // of the pair's bytes, modulo ffff
		return (from>>16 + from&0xffff + to>>16 + to&0xffff) % 0xffff
	}
	pairs := [][2]uint32{
		{src, dst}, {dst, src}, {0, 0}, {math.MaxUint32, 0}, {0, math.MaxUint32}, {math.MaxUint32, math.MaxUint32}, {0, 0xffff}, {0xffff0000, 0},
		{src&0xffff<<16 | src>>16, dst}, {src, dst&0xffff<<16 | dst>>16}, {src + 1, dst - 1}, {src + 1, dst}, {src, dst + 1}, {src + 1<<16, dst - 1},
		{1, 0}, {0, 1}, {1 << 16, 0}, {0, 1 << 16}, {0x00010000, 0xffff}, {0xfffe, 0}, {2, 0xfffd}, {2, 0xfffe},
	}
	alike := 0
	for _, a := range pairs {
		s := c.segment(int(c.next() % 50))
		put, e := tcp.Put(a[0], a[1], s)
		if e != api.OK {
			t.Fatal(a, e)
		}
		for _, b := range pairs {
			got, e := tcp.Parse(b[0], b[1], put)
			if sums(a[0], a[1]) == sums(b[0], b[1]) {
				alike++
				if e != api.OK || !same(got, s) {
					t.Errorf("%x laid, %x read: %+v, %d", a, b, got, e)
				}
			} else if e != api.ErrSum || !same(got, api.Segment{}) {
				t.Errorf("%x laid, %x read: %+v, %d", a, b, got, e)
			}
		}
	}
	if alike < 2*len(pairs) {
		t.Errorf("only %d are alike", alike)
	}
}

func TestBitTurned(t *testing.T) { // P6.5
	var c chance = 3
	segments := []api.Segment{{}, full(), {Opts: slices.Repeat([]api.Opt{{Kind: 4}}, 20)}, {Data: c.bytes(1460)}, {Data: make([]byte, 1459)}}
	for range 100 {
		segments = append(segments, c.segment(int(c.next()%60)))
	}
	for _, s := range segments {
		b := put(t, s)
		for bit := range len(b) * 8 {
			b[bit/8] ^= 0x80 >> (bit % 8)
			got, e := tcp.Parse(src, dst, b)
			if e == api.OK || !same(got, api.Segment{}) {
				t.Errorf("% x with bit %d turned: %+v, %d", b, bit, got, e)
			}
			if e != api.ErrSum && bit/4 != 24 { // only the offset has another reason
				t.Errorf("% x with bit %d turned: %d", b, bit, e)
			}
			b[bit/8] ^= 0x80 >> (bit % 8)
		}
	}
	// Of a field of ffff or 0000, too: neither becomes the other by one bit.
	for _, field := range []byte{0, 0xff} {
		b := laid(0x50, "")
		b[18], b[19] = 0, 0
		righted(b)
		b[18], b[19], b[16], b[17] = b[16], b[17], field, field
		for bit := range 16 {
			turned := bytes.Clone(b)
			turned[16+bit/8] ^= 0x80 >> (bit % 8)
			refuse(t, "field", turned, api.ErrSum)
		}
	}
}

func TestExamples(t *testing.T) {
	s := api.Segment{SPort: 1, DPort: 2, Seq: 3, Flags: api.Syn, Opts: []api.Opt{opt(2, "\x05\xb4")}}
	b := put(t, s)
	want := []byte{0, 1, 0, 2, 0, 0, 0, 3, 0, 0, 0, 0, 0x60, 2, 0, 0}
	if len(b) != 24 || !bytes.Equal(b[:16], want) || tcp.Length(s) != 1 || tcp.Most != 1480 {
		t.Errorf("% x, %d", b, tcp.Length(s))
	}
}
