package udp_test

import (
	"bytes"
	"math"
	"testing"

	"culvert/api"
	"culvert/udp"
)

// Addresses between which most datagrams of these tests go.
const (
	src = 0x0a010203
	dst = 0xcb007109
)

// chance makes bytes that look like chance, always the same ones.
type chance uint64

func (c *chance) next() uint64 {
	*c = *c*6364136223846793005 + 1442695040888963407
	return uint64(*c) >> 32
}

func (c *chance) bytes(n int) []byte {
	out := make([]byte, n)
	for i := range out {
		out[i] = byte(c.next())
	}
	return out
}

// datagram makes a datagram with n bytes of Data.
func (c *chance) datagram(n int) api.Datagram {
	return api.Datagram{SPort: uint16(c.next()), DPort: uint16(c.next()), Data: c.bytes(n)}
}

// full is a datagram of which nothing is 0.
func full() api.Datagram {
	return api.Datagram{SPort: 0x1234, DPort: 0x5678, Data: []byte("hello")}
}

// cloned is a copy of d that has no memory in common with it.
func cloned(d api.Datagram) api.Datagram {
	d.Data = bytes.Clone(d.Data)
	return d
}

// same holds datagrams against each other in another way than the program's.
func same(a, b api.Datagram) bool {
	return [2]uint16{a.SPort, a.DPort} == [2]uint16{b.SPort, b.DPort} && string(a.Data) == string(b.Data)
}

// added is the sum of the pseudo header and of b, modulo ffff, worked out in
// another way than the program's.
func added(from, to uint32, b []byte) uint32 {
	all := uint64(from>>16+from&0xffff) + uint64(to>>16+to&0xffff) + 17 + uint64(len(b))
	for i, x := range b {
		all += uint64(x) << (8 * (1 - i%2))
	}
	return uint32(all % 0xffff)
}

// righted lays the right field into b, which has at least 8 bytes.
func righted(from, to uint32, b []byte) []byte {
	b[6], b[7] = 0, 0
	field := 0xffff - added(from, to, b) // never 0000
	b[6], b[7] = byte(field>>8), byte(field)
	return b
}

// numbered is bytes with the right field, of the ports 4000 and 53, which need
// be no datagram's: long is the number in it.
func numbered(long int, data string) []byte {
	b := []byte{0x0f, 0xa0, 0, 53, byte(long >> 8), byte(long), 0, 0}
	return righted(src, dst, append(b, data...))
}

// laid is the bytes of the datagram that plain is, with the right field.
func laid(data string) []byte {
	return numbered(8+len(data), data)
}

// plain is the datagram of laid.
func plain(data string) api.Datagram {
	return api.Datagram{SPort: 4000, DPort: 53, Data: []byte(data)}
}

// noughts are n bytes of 00.
func noughts(n int) string {
	return string(make([]byte, n))
}

// withField is b with another field.
func withField(b []byte, field int) []byte {
	b = bytes.Clone(b)
	b[6], b[7] = byte(field>>8), byte(field)
	return b
}

// wrongSum is b with a field that is wrong, and not 0000.
func wrongSum(b []byte) []byte {
	field := int(b[6])<<8 | int(b[7])
	return withField(b, field%0xfffe+1)
}

// put tells Put's bytes, which must be there.
func put(t *testing.T, from, to uint32, d api.Datagram) []byte {
	t.Helper()
	before := cloned(d)
	b, e := udp.Put(from, to, d)
	if e != api.OK {
		t.Fatalf("Put(%x, %x, %+v) = %d", from, to, d, e)
	}
	if !same(d, before) {
		t.Errorf("%+v became %+v", before, d)
	}
	return b
}

// accept holds Parse's answer against d.
func accept(t *testing.T, name string, from, to uint32, b []byte, d api.Datagram) {
	t.Helper()
	before := bytes.Clone(b)
	got, e := udp.Parse(from, to, b)
	if e != api.OK || !same(got, d) {
		t.Errorf("%s: Parse(%x, %x, % x) = %+v, %d, want %+v", name, from, to, b, got, e, d)
	}
	if !bytes.Equal(b, before) {
		t.Errorf("%s: % x became % x", name, before, b)
	}
}

// refuse holds Parse's error against want, beside which nothing is told.
func refuse(t *testing.T, name string, from, to uint32, b []byte, want api.Errno) {
	t.Helper()
	before := bytes.Clone(b)
	d, e := udp.Parse(from, to, b)
	if e != want || !same(d, api.Datagram{}) {
		t.Errorf("%s: Parse(%x, %x, % x) = %+v, %d, want %d", name, from, to, b, d, e, want)
	}
	if !bytes.Equal(b, before) {
		t.Errorf("%s: % x became % x", name, before, b)
	}
}

func TestSame(t *testing.T) { // P7.1
	all := []api.Datagram{full(), {}}
	for _, change := range []func(d *api.Datagram){
		func(d *api.Datagram) { d.SPort++ },
		func(d *api.Datagram) { d.SPort ^= 1 << 15 },
		func(d *api.Datagram) { d.DPort-- },
		func(d *api.Datagram) { d.DPort ^= 1 << 15 },
		func(d *api.Datagram) { d.SPort, d.DPort = d.DPort, d.SPort },
		func(d *api.Datagram) { d.Data = nil },
		func(d *api.Datagram) { d.Data = d.Data[:4] },
		func(d *api.Datagram) { d.Data = append(d.Data, 0) },
		func(d *api.Datagram) { d.Data[0]++ },
		func(d *api.Datagram) { d.Data[4]++ },
	} {
		d := full()
		change(&d)
		all = append(all, d)
	}
	for i, a := range all {
		for k, b := range all {
			if got := udp.Same(cloned(a), cloned(b)); got != (i == k) {
				t.Errorf("Same(%+v, %+v) = %v", a, b, got)
			}
		}
	}
	// nil and empty are one (R4).
	empty := api.Datagram{Data: []byte{}}
	if !udp.Same(api.Datagram{}, empty) || !udp.Same(empty, api.Datagram{}) {
		t.Error("no Data is not the same as empty Data")
	}
	// Also of those that Put does not lay.
	long := api.Datagram{Data: make([]byte, 2000)}
	if !udp.Same(long, cloned(long)) || udp.Same(long, api.Datagram{Data: make([]byte, 1999)}) {
		t.Error("of long ones")
	}
}

func TestPutBytes(t *testing.T) { // P7.1
	for _, x := range []struct {
		name     string
		from, to uint32
		d        api.Datagram
		want     string
	}{
		{"zero", 0, 0, api.Datagram{}, "\x00\x00\x00\x00\x00\x08\xff\xde"},
		{"empty Data", 0, 0, api.Datagram{Data: []byte{}}, "\x00\x00\x00\x00\x00\x08\xff\xde"},
		{"full", src, dst, full(), "\x12\x34\x56\x78\x00\x0d\x0b\x48hello"},
		{"each number of its own", 0x01020304, 0x05060708, api.Datagram{SPort: 0x090a, DPort: 0x0b0c, Data: []byte{0x0d, 0x0e}},
			"\x09\x0a\x0b\x0c\x00\x0a\xce\xa2\x0d\x0e"},
		{"a last byte alone", 0, 0, api.Datagram{Data: []byte{0xab}}, "\x00\x00\x00\x00\x00\x09\x54\xdc\xab"},
		{"all ones", math.MaxUint32, math.MaxUint32, api.Datagram{SPort: 0xffff, DPort: 0xffff, Data: []byte{0xff, 0xff}},
			"\xff\xff\xff\xff\x00\x0a\xff\xda\xff\xff"},
		// Where the field would be 0000, ffff stands for it.
		{"ffff by SPort", 0, 0, api.Datagram{SPort: 0xffde}, "\xff\xde\x00\x00\x00\x08\xff\xff"},
		{"ffff by DPort", 0, 0, api.Datagram{DPort: 0xffde}, "\x00\x00\xff\xde\x00\x08\xff\xff"},
		{"ffff by Data", 0, 0, api.Datagram{Data: []byte{0xff, 0xda}}, "\x00\x00\x00\x00\x00\x0a\xff\xff\xff\xda"},
		{"ffff by Src", 0xffde0000, 0, api.Datagram{}, "\x00\x00\x00\x00\x00\x08\xff\xff"},
		{"ffff by Dst", 0, 0xffde, api.Datagram{}, "\x00\x00\x00\x00\x00\x08\xff\xff"},
	} {
		if b := put(t, x.from, x.to, x.d); string(b) != x.want {
			t.Errorf("%s: % x, want % x", x.name, b, x.want)
		}
		accept(t, x.name, x.from, x.to, []byte(x.want), x.d)
	}
}

func TestPutLengths(t *testing.T) { // P7.1
	var c chance = 6
	for n := range 1473 {
		d := c.datagram(n)
		b := put(t, src, dst, d)
		if len(b) != 8+n || int(b[4])<<8|int(b[5]) != 8+n || !bytes.Equal(b[8:], d.Data) || added(src, dst, b) != 0 {
			t.Errorf("Data of %d: % x", n, b)
		}
	}
	for _, n := range []int{1473, 1474, 1480, 1481, 1492, 1493, 1500, 1<<16 - 9, 1<<16 - 8, 1<<16 - 7, 1 << 16, 1<<16 + 1, 1 << 20} {
		if b, e := udp.Put(src, dst, api.Datagram{SPort: 1, Data: make([]byte, n)}); e != api.ErrLong || len(b) != 0 {
			t.Errorf("Data of %d: %d bytes, %d", n, len(b), e)
		}
	}
}

func TestPutIsNew(t *testing.T) { // R3
	all := []byte("abcdefgh")
	d := api.Datagram{Data: all[2:4]} // with room behind it
	b := put(t, src, dst, d)
	other := put(t, src, dst, d)
	clear(b[:cap(b)])
	if string(all) != "abcdefgh" {
		t.Errorf("what was handed in became %q", all)
	}
	clear(all)
	if string(other[8:]) != "cd" || other[5] != 10 {
		t.Errorf("what was told became % x", other)
	}
}

func TestParse(t *testing.T) { // P7.2
	for _, data := range []string{"", "a", "ab", "abc", "\x00", "\x00\x00", "\xff\xff\xff", noughts(1471), noughts(1472)} {
		accept(t, "right", src, dst, laid(data), plain(data))
		accept(t, "no field", src, dst, withField(laid(data), 0), plain(data))
	}
	b := righted(1, 2, []byte("\x01\x02\x03\x04\x00\x0a\x00\x00\x05\x06"))
	accept(t, "each number of its own", 1, 2, b, api.Datagram{SPort: 0x0102, DPort: 0x0304, Data: []byte{5, 6}})
}

func TestParseIsNew(t *testing.T) { // R3
	b := laid("abc")
	before := bytes.Clone(b)
	d, _ := udp.Parse(src, dst, b)
	other, _ := udp.Parse(src, dst, b)
	clear(d.Data[:cap(d.Data)])
	if !bytes.Equal(b, before) {
		t.Errorf("what was handed in became % x", b)
	}
	clear(b)
	if !same(other, plain("abc")) {
		t.Errorf("what was told became %+v", other)
	}
}

func TestParseLengths(t *testing.T) { // P7.2: ErrLong, ErrShort
	refuse(t, "nil", src, dst, nil, api.ErrShort)
	refuse(t, "none", src, dst, []byte{}, api.ErrShort)
	for n := range 8 {
		refuse(t, "a beginning", src, dst, laid("abc")[:n], api.ErrShort)
		refuse(t, "that says so", src, dst, numbered(n, "")[:n], api.ErrShort)
		refuse(t, "noughts", src, dst, make([]byte, n), api.ErrShort)
		refuse(t, "ff", src, dst, bytes.Repeat([]byte{0xff}, n), api.ErrShort)
	}
	for _, n := range []int{1481, 1482, 1500, 1<<16 - 1, 1 << 16, 1<<16 + 8, 1 << 20} {
		refuse(t, "noughts", src, dst, make([]byte, n), api.ErrLong)
		refuse(t, "ff", src, dst, bytes.Repeat([]byte{0xff}, n), api.ErrLong)
		refuse(t, "right", src, dst, laid(noughts(n-8)), api.ErrLong)
		refuse(t, "no field", src, dst, withField(laid(noughts(n-8)), 0), api.ErrLong)
	}
}

func TestParseForm(t *testing.T) { // P7.2: ErrForm
	for _, n := range []int{0, 1, 2, 5, 248, 1471, 1472} {
		for long := range 1 << 16 {
			b := numbered(long, noughts(n))
			if long == 8+n {
				accept(t, "as many as it has", src, dst, b, plain(noughts(n)))
			} else if _, e := udp.Parse(src, dst, b); e != api.ErrForm {
				t.Errorf("%d bytes that say %d: %d", 8+n, long, e)
			}
		}
		refuse(t, "one fewer", src, dst, numbered(7+n, noughts(n)), api.ErrForm)
		refuse(t, "one more", src, dst, numbered(9+n, noughts(n)), api.ErrForm)
		refuse(t, "no field, one fewer", src, dst, withField(numbered(7+n, noughts(n)), 0), api.ErrForm)
		refuse(t, "no field, one more", src, dst, withField(numbered(9+n, noughts(n)), 0), api.ErrForm)
	}
	refuse(t, "the other way round", src, dst, righted(src, dst, []byte{0, 1, 0, 2, 8, 0, 0, 0}), api.ErrForm)
	refuse(t, "all noughts", src, dst, make([]byte, 8), api.ErrForm)
}

func TestWrongSum(t *testing.T) { // P7.2: ErrSum
	for _, data := range []string{"", "a", "abcd"} {
		good, want := laid(data), plain(data)
		right := int(good[6])<<8 | int(good[7])
		for f := range 1 << 16 {
			if b := withField(good, f); f == right || f == 0 {
				accept(t, "field", src, dst, b, want)
			} else {
				refuse(t, "field", src, dst, b, api.ErrSum)
			}
		}
	}
	good, want := laid("abc"), plain("abc")
	for i := range good {
		if i != 4 && i != 5 { // another number is ErrForm
			b := bytes.Clone(good)
			b[i]++
			refuse(t, "byte", src, dst, b, api.ErrSum)
		}
	}
	// The pseudo header has a part in it, where there is a field.
	for _, x := range [][2]uint32{{src + 1, dst}, {src, dst ^ 1<<31}, {src ^ 1<<16, dst}, {0, 0}, {dst, dst}, {src, src}} {
		refuse(t, "other addresses", x[0], x[1], good, api.ErrSum)
		accept(t, "other addresses, no field", x[0], x[1], withField(good, 0), want)
	}
	// Each bit of it has.
	for bit := range 32 {
		refuse(t, "bit of Src", src^1<<bit, dst, good, api.ErrSum)
		refuse(t, "bit of Dst", src, dst^1<<bit, good, api.ErrSum)
	}
	// A field of one 00 is one.
	refuse(t, "field 0001", src, dst, withField(good, 1), api.ErrSum)
	refuse(t, "field 0100", src, dst, withField(good, 0x100), api.ErrSum)
	// A sum of TCP's protocol is none of UDP's.
	tcpField := int(good[6])<<8 | int(good[7]) + 17 - 6
	refuse(t, "protocol 6", src, dst, withField(good, tcpField), api.ErrSum)
}

func TestOrder(t *testing.T) { // P7.2: of two things that are wrong, the one named first
	for _, x := range []struct {
		name string
		b    []byte
		want api.Errno
	}{
		{"too many, number", numbered(8, noughts(1473)), api.ErrLong},
		{"too many, sum", wrongSum(laid(noughts(1473))), api.ErrLong},
		{"too many, number, sum", wrongSum(numbered(8, noughts(1473))), api.ErrLong},
		{"too few, number", numbered(9, "")[:7], api.ErrShort},
		{"too few, sum", wrongSum(numbered(7, ""))[:7], api.ErrShort},
		{"too few, no number yet", laid("")[:4], api.ErrShort},
		{"number, sum", wrongSum(numbered(9, "")), api.ErrForm},
		{"number 0, sum", wrongSum(numbered(0, "abc")), api.ErrForm},
	} {
		refuse(t, x.name, src, dst, x.b, x.want)
	}
}

// told is Parse's error, in another way than the program's.
func told(b []byte) api.Errno {
	n := len(b)
	if n < 8 {
		return api.ErrShort
	}
	if n > 1480 {
		return api.ErrLong
	}
	if b[4] != byte(n/256) || b[5] != byte(n%256) {
		return api.ErrForm
	}
	if field := string(b[6:8]); field == "\x00\x00" || added(src, dst, b) == 0 {
		return api.OK
	}
	return api.ErrSum
}

// anything makes bytes that come as far as chance has it.
func (c *chance) anything() []byte {
	b := c.bytes(int(c.next() % 40))
	if c.next()%20 == 0 {
		b = c.bytes(1470 + int(c.next()%20))
	}
	if len(b) < 8 {
		return b
	}
	if c.next()%5 > 0 {
		b[4], b[5] = byte(len(b)>>8), byte(len(b))
	}
	switch c.next() % 4 {
	case 0:
		return withField(b, 0)
	case 1:
		return b
	}
	return righted(src, dst, b)
}

func TestParseOfAnything(t *testing.T) { // P7.2, P7.3, R1, R2
	var c chance = 4
	seen := map[api.Errno]int{}
	for range 50000 {
		b := c.anything()
		want := told(b)
		seen[want]++
		if want != api.OK {
			refuse(t, "chance", src, dst, b, want)
			continue
		}
		d, e := udp.Parse(src, dst, b)
		if e != api.OK {
			t.Errorf("Parse(% x) = %d", b, e)
			continue
		}
		// Put of it is the bytes, but for a field of 0000.
		again := put(t, src, dst, d)
		if b[6] == 0 && b[7] == 0 {
			righted(src, dst, b)
		}
		if !bytes.Equal(again, b) {
			t.Errorf("% x becomes % x", b, again)
		}
	}
	for _, e := range []api.Errno{api.OK, api.ErrLong, api.ErrShort, api.ErrForm, api.ErrSum} {
		if seen[e] < 100 {
			t.Errorf("%d came %d times", e, seen[e])
		}
	}
}

func TestBack(t *testing.T) { // P7.3
	var c chance = 1
	for range 5000 {
		d := c.datagram(int(c.next() % 1473))
		from, to := uint32(c.next()), uint32(c.next())
		b := put(t, from, to, d)
		accept(t, "put", from, to, b, d)
		if again := put(t, from, to, d); !bytes.Equal(again, b) {
			t.Errorf("%+v: once % x, then % x", d, b, again)
		}
		none := withField(b, 0)
		accept(t, "no field", from, to, none, d)
		got, _ := udp.Parse(from, to, none)
		if again := put(t, from, to, got); !bytes.Equal(again, b) {
			t.Errorf("% x becomes % x, want % x", none, again, b)
		}
	}
}

func TestFieldIsThere(t *testing.T) { // P7.4, P7.3
	fields := map[int]int{}
	for p := range 1 << 16 { // in each the words but the field add up to something else
		d := api.Datagram{SPort: uint16(p), Data: []byte("x")}
		b := put(t, src, dst, d)
		field := int(b[6])<<8 | int(b[7])
		fields[field]++
		if field == 0 || added(src, dst, b) != 0 {
			t.Errorf("SPort %d: the field is %04x", p, field)
		}
		if got, e := udp.Parse(src, dst, b); e != api.OK || !same(got, d) {
			t.Errorf("SPort %d: %+v, %d", p, got, e)
		}
	}
	if fields[0xffff] < 1 || len(fields) != 0xffff {
		t.Errorf("%d fields, ffff %d times", len(fields), fields[0xffff])
	}
}

func TestExamples(t *testing.T) {
	d := api.Datagram{SPort: 1, DPort: 2}
	b := put(t, 0, 0, d)
	if string(b) != "\x00\x01\x00\x02\x00\x08\xff\xdb" {
		t.Errorf("% x", b)
	}
	accept(t, "of it", 0, 0, b, d)
	accept(t, "field 0000", 0, 0, withField(b, 0), d)
	refuse(t, "field ffdc", 0, 0, withField(b, 0xffdc), api.ErrSum)
	long := []byte{0, 1, 0, 2, 0, 9, 0, 0}
	refuse(t, "a number of 9", 0, 0, long, api.ErrForm)
	refuse(t, "seven", 0, 0, long[:7], api.ErrShort)
}
