package icmp_test

import (
	"bytes"
	"testing"

	"culvert/api"
	"culvert/icmp"
)

// chance makes bytes that look like chance, always the same ones.
type chance uint64

func (c *chance) next() uint64 {
	*c = *c*6364136223846793005 + 1442695040888963407
	return uint64(*c) >> 32
}

func (c *chance) bytes(n int) []byte {
	out := make([]byte, n)
	for i := range out {
		out[i] = byte(c.next())
	}
	return out
}

// message makes a message with n bytes of Data.
func (c *chance) message(n int) api.Message {
	return api.Message{Type: byte(c.next()), Code: byte(c.next()), Rest: uint32(c.next()), Data: c.bytes(n)}
}

// echo makes an echo with n bytes of Data.
func (c *chance) echo(n int) api.Message {
	m := c.message(n)
	m.Type, m.Code = 8*(m.Type%2), 0
	return m
}

// full is a message of which nothing is 0.
func full() api.Message {
	return api.Message{Type: 3, Code: 4, Rest: 0x12345678, Data: []byte("hello")}
}

// cloned is a copy of m that has no memory in common with it.
func cloned(m api.Message) api.Message {
	m.Data = bytes.Clone(m.Data)
	return m
}

// same holds messages against each other in another way than the program's.
func same(a, b api.Message) bool {
	return [3]uint32{uint32(a.Type), uint32(a.Code), a.Rest} == [3]uint32{uint32(b.Type), uint32(b.Code), b.Rest} &&
		string(a.Data) == string(b.Data)
}

// right tells whether b is right, in another way than the program's.
func right(b []byte) bool {
	all := uint64(0)
	for i, x := range b {
		all += uint64(x) << (8 * (1 - i%2))
	}
	return all > 0 && all%0xffff == 0
}

// withField is b with another field.
func withField(b []byte, field int) []byte {
	b = bytes.Clone(b)
	b[2], b[3] = byte(field>>8), byte(field)
	return b
}

// fieldIn tells the field in b.
func fieldIn(b []byte) int {
	return int(b[2])<<8 | int(b[3])
}

// righted is b, which has at least 4 bytes, with the field that is laid while
// 0000 stands there.
func righted(b []byte) []byte {
	all := uint64(0)
	for i, x := range withField(b, 0) {
		all += uint64(x) << (8 * (1 - i%2))
	}
	if all > 0 {
		all = (all-1)%0xffff + 1
	}
	return withField(b, 0xffff-int(all))
}

// laid is the bytes of the message that plain is, with the right field.
func laid(data string) []byte {
	return righted(append([]byte{8, 0, 0, 0, 0x12, 0x34, 0, 9}, data...))
}

// plain is the message of laid.
func plain(data string) api.Message {
	return api.Message{Type: 8, Rest: 0x12340009, Data: []byte(data)}
}

// noughts are n bytes of 00.
func noughts(n int) string {
	return string(make([]byte, n))
}

// put tells Put's bytes, which must be there.
func put(t *testing.T, m api.Message) []byte {
	t.Helper()
	before := cloned(m)
	b, e := icmp.Put(m)
	if e != api.OK {
		t.Fatalf("Put(%+v) = %d", m, e)
	}
	if !same(m, before) {
		t.Errorf("%+v became %+v", before, m)
	}
	return b
}

// accept holds Parse's answer against m.
func accept(t *testing.T, name string, b []byte, m api.Message) {
	t.Helper()
	before := bytes.Clone(b)
	got, e := icmp.Parse(b)
	if e != api.OK || !same(got, m) {
		t.Errorf("%s: Parse(% x) = %+v, %d, want %+v", name, b, got, e, m)
	}
	if !bytes.Equal(b, before) {
		t.Errorf("%s: % x became % x", name, before, b)
	}
}

// refuse holds Parse's error against want, beside which nothing is told.
func refuse(t *testing.T, name string, b []byte, want api.Errno) {
	t.Helper()
	before := bytes.Clone(b)
	m, e := icmp.Parse(b)
	if e != want || !same(m, api.Message{}) {
		t.Errorf("%s: Parse(% x) = %+v, %d, want %d", name, b, m, e, want)
	}
	if !bytes.Equal(b, before) {
		t.Errorf("%s: % x became % x", name, before, b)
	}
}

func TestSame(t *testing.T) { // P8.1
	all := []api.Message{full(), {}}
	for _, change := range []func(m *api.Message){
		func(m *api.Message) { m.Type++ },
		func(m *api.Message) { m.Type ^= 1 << 7 },
		func(m *api.Message) { m.Code-- },
		func(m *api.Message) { m.Code ^= 1 << 7 },
		func(m *api.Message) { m.Type, m.Code = m.Code, m.Type },
		func(m *api.Message) { m.Rest++ },
		func(m *api.Message) { m.Rest ^= 1 << 16 },
		func(m *api.Message) { m.Rest ^= 1 << 31 },
		func(m *api.Message) { m.Data = nil },
		func(m *api.Message) { m.Data = m.Data[:4] },
		func(m *api.Message) { m.Data = append(m.Data, 0) },
		func(m *api.Message) { m.Data[0]++ },
		func(m *api.Message) { m.Data[4]++ },
	} {
		m := full()
		change(&m)
		all = append(all, m)
	}
	for i, a := range all {
		for k, b := range all {
			if got := icmp.Same(cloned(a), cloned(b)); got != (i == k) {
				t.Errorf("Same(%+v, %+v) = %v", a, b, got)
			}
		}
	}
	// nil and empty are one (R4).
	empty := api.Message{Data: []byte{}}
	if !icmp.Same(api.Message{}, empty) || !icmp.Same(empty, api.Message{}) {
		t.Error("no Data is not the same as empty Data")
	}
	// Also of those that may not be.
	long := api.Message{Data: make([]byte, 2000)}
	if !icmp.Same(long, cloned(long)) || icmp.Same(long, api.Message{Data: make([]byte, 1999)}) {
		t.Error("of long ones")
	}
}

func TestPutBytes(t *testing.T) { // P8.1
	for _, x := range []struct {
		name string
		m    api.Message
		want string
	}{
		{"zero", api.Message{}, "\x00\x00\xff\xff\x00\x00\x00\x00"},
		{"empty Data", api.Message{Data: []byte{}}, "\x00\x00\xff\xff\x00\x00\x00\x00"},
		{"Data of 00", api.Message{Data: []byte{0, 0, 0}}, "\x00\x00\xff\xff\x00\x00\x00\x00\x00\x00\x00"},
		{"echo", api.Message{Type: 8, Rest: 0x12345678, Data: []byte("hello")}, "\x08\x00\x4b\x81\x12\x34\x56\x78hello"},
		{"error", api.Message{Type: 3, Code: 4, Rest: 1404, Data: []byte{0x45}}, "\x03\x04\xb2\x7f\x00\x00\x05\x7c\x45"},
		{"each number of its own", api.Message{Type: 1, Code: 2, Rest: 0x03040506, Data: []byte{7, 8}}, "\x01\x02\xef\xeb\x03\x04\x05\x06\x07\x08"},
		{"a last byte alone", api.Message{Data: []byte{0xab}}, "\x00\x00\x54\xff\x00\x00\x00\x00\xab"},
		{"a last byte behind two", api.Message{Data: []byte{0, 0, 1}}, "\x00\x00\xfe\xff\x00\x00\x00\x00\x00\x00\x01"},
		{"all ones", api.Message{Type: 255, Code: 255, Rest: 0xffffffff, Data: []byte{255, 255}}, "\xff\xff\x00\x00\xff\xff\xff\xff\xff\xff"},
		// The field may be 0000.
		{"0000 by Type and Code", api.Message{Type: 255, Code: 255}, "\xff\xff\x00\x00\x00\x00\x00\x00"},
		{"0000 by the higher bits", api.Message{Rest: 0xffff0000}, "\x00\x00\x00\x00\xff\xff\x00\x00"},
		{"0000 by the lower bits", api.Message{Rest: 0xffff}, "\x00\x00\x00\x00\x00\x00\xff\xff"},
		{"0000 by Data", api.Message{Data: []byte{255, 255}}, "\x00\x00\x00\x00\x00\x00\x00\x00\xff\xff"},
		{"0000 by two", api.Message{Type: 0x80, Rest: 0x7fff0000}, "\x80\x00\x00\x00\x7f\xff\x00\x00"},
	} {
		if b := put(t, x.m); string(b) != x.want {
			t.Errorf("%s: % x, want % x", x.name, b, x.want)
		}
		accept(t, x.name, []byte(x.want), x.m)
	}
}

func TestPutLengths(t *testing.T) { // P8.1
	if icmp.Most != 1472 {
		t.Errorf("Most is %d", icmp.Most)
	}
	var c chance = 6
	for n := range 1473 {
		m := c.message(n)
		b := put(t, m)
		if len(b) != 8+n || !bytes.Equal(b[8:], m.Data) || !right(b) {
			t.Errorf("Data of %d: % x", n, b)
		}
		accept(t, "of it", b, m)
	}
	for _, n := range []int{1473, 1474, 1480, 1481, 1492, 1493, 1500, 1<<16 - 8, 1<<16 - 1, 1 << 16, 1<<16 + 1, 1 << 20} {
		if b, e := icmp.Put(api.Message{Type: 8, Data: make([]byte, n)}); e != api.ErrLong || len(b) != 0 {
			t.Errorf("Data of %d: %d bytes, %d", n, len(b), e)
		}
	}
}

func TestPutIsNew(t *testing.T) { // R3
	all := []byte("abcdefgh")
	m := api.Message{Type: 8, Data: all[2:4]} // with room behind it
	b := put(t, m)
	other := put(t, m)
	clear(b[:cap(b)])
	if string(all) != "abcdefgh" {
		t.Errorf("what was handed in became %q", all)
	}
	clear(all)
	if string(other[8:]) != "cd" || other[0] != 8 {
		t.Errorf("what was told became % x", other)
	}
}

func TestParse(t *testing.T) { // P8.1
	for _, data := range []string{"", "a", "ab", "abc", "\x00", "\x00\x00", "\xff\xff\xff", noughts(1471), noughts(1472)} {
		accept(t, "right", laid(data), plain(data))
	}
	accept(t, "each number of its own", righted([]byte{1, 2, 0, 0, 3, 4, 5, 6, 7, 8}),
		api.Message{Type: 1, Code: 2, Rest: 0x03040506, Data: []byte{7, 8}})
	// Whatever the Type and the Code are.
	for n := range 1 << 16 {
		b := righted([]byte{byte(n >> 8), byte(n), 0, 0, 1, 2, 3, 4})
		m, e := icmp.Parse(b)
		if want := (api.Message{Type: byte(n >> 8), Code: byte(n), Rest: 0x01020304}); e != api.OK || !same(m, want) {
			t.Errorf("Parse(% x) = %+v, %d", b, m, e)
		}
	}
}

func TestParseIsNew(t *testing.T) { // R3
	b := laid("abc")
	before := bytes.Clone(b)
	m, _ := icmp.Parse(b)
	other, _ := icmp.Parse(b)
	clear(m.Data[:cap(m.Data)])
	if !bytes.Equal(b, before) {
		t.Errorf("what was handed in became % x", b)
	}
	clear(b)
	if !same(other, plain("abc")) {
		t.Errorf("what was told became %+v", other)
	}
}

func TestParseLengths(t *testing.T) { // P8.1: ErrLong, ErrShort
	refuse(t, "nil", nil, api.ErrShort)
	refuse(t, "none", []byte{}, api.ErrShort)
	for n := range 8 {
		refuse(t, "a beginning", laid("abc")[:n], api.ErrShort)
		refuse(t, "noughts", make([]byte, n), api.ErrShort)
		refuse(t, "ff", bytes.Repeat([]byte{0xff}, n), api.ErrShort)
	}
	for _, n := range []int{1481, 1482, 1500, 1<<16 - 1, 1 << 16, 1<<16 + 8, 1 << 20} {
		refuse(t, "noughts", make([]byte, n), api.ErrLong)
		refuse(t, "ff", bytes.Repeat([]byte{0xff}, n), api.ErrLong)
		refuse(t, "right", laid(noughts(n-8)), api.ErrLong)
	}
}

func TestWrongSum(t *testing.T) { // P8.1: ErrSum
	for _, data := range []string{"", "a", "abcd"} {
		good, want := laid(data), plain(data)
		for f := range 1 << 16 {
			if b := withField(good, f); f == fieldIn(good) {
				accept(t, "field", b, want)
			} else {
				refuse(t, "field", b, api.ErrSum)
			}
		}
	}
	good := laid("abc")
	for i := range good {
		b := bytes.Clone(good)
		b[i]++
		refuse(t, "byte", b, api.ErrSum)
	}
	// All bytes count, and no others do.
	refuse(t, "one byte less", good[:len(good)-1], api.ErrSum)
	refuse(t, "one byte more", append(bytes.Clone(good), 1), api.ErrSum)
	refuse(t, "noughts", make([]byte, 8), api.ErrSum)
	refuse(t, "noughts, the most", make([]byte, 1480), api.ErrSum)
	// There is no 'none' as in a datagram.
	refuse(t, "field 0000", withField(good, 0), api.ErrSum)
}

func TestOrder(t *testing.T) { // P8.1: of two things that are wrong, the one named first
	long, short := laid(noughts(1473)), laid("")[:7]
	refuse(t, "too many, sum", withField(long, fieldIn(long)^1), api.ErrLong)
	refuse(t, "too few, sum", withField(short, fieldIn(short)^1), api.ErrShort)
	refuse(t, "too few, no field yet", laid("")[:2], api.ErrShort)
}

// told is Parse's error, in another way than the program's.
func told(b []byte) api.Errno {
	switch n := len(b); {
	case n < 8:
		return api.ErrShort
	case n > 1480:
		return api.ErrLong
	case !right(b):
		return api.ErrSum
	}
	return api.OK
}

// anything makes bytes that come as far as chance has it.
func (c *chance) anything() []byte {
	b := c.bytes(int(c.next() % 40))
	if c.next()%20 == 0 {
		b = c.bytes(1470 + int(c.next()%20))
	}
	if c.next()%10 == 0 {
		clear(b[len(b)/2:])
	}
	if len(b) < 4 || c.next()%4 == 0 {
		return b
	}
	b = righted(b)
	if fieldIn(b) == 0 && c.next()%2 == 0 {
		return withField(b, 0xffff)
	}
	return b
}

func TestParseOfAnything(t *testing.T) { // P8.1, P8.4, R1, R2
	var c chance = 4
	seen := map[api.Errno]int{}
	for range 50000 {
		b := c.anything()
		want := told(b)
		seen[want]++
		if want != api.OK {
			refuse(t, "chance", b, want)
			continue
		}
		m, e := icmp.Parse(b)
		if e != api.OK {
			t.Errorf("Parse(% x) = %d", b, e)
			continue
		}
		// Put of it is the bytes, but that 0000 and ffff stand for each other.
		if again := put(t, m); !bytes.Equal(again, righted(b)) {
			t.Errorf("% x becomes % x", b, again)
		}
	}
	for _, e := range []api.Errno{api.OK, api.ErrLong, api.ErrShort, api.ErrSum} {
		if seen[e] < 100 {
			t.Errorf("%d came %d times", e, seen[e])
		}
	}
}

func TestBack(t *testing.T) { // P8.4
	var c chance = 1
	for range 5000 {
		m := c.message(int(c.next() % 1473))
		b := put(t, m)
		accept(t, "put", b, m)
		if again := put(t, m); !bytes.Equal(again, b) {
			t.Errorf("%+v: once % x, then % x", m, b, again)
		}
	}
}

func TestFieldsOfNoughtAndOnes(t *testing.T) { // P8.4
	zeros := 0
	for n := range 1 << 16 { // in each the words but the field add up to something else
		m := api.Message{Type: 8, Rest: uint32(n), Data: []byte("x")}
		b := put(t, m)
		if !right(b) || fieldIn(b) == 0xffff {
			t.Errorf("Rest %04x: the field is %04x", n, fieldIn(b))
		}
		if fieldIn(b) == 0 { // ffff stands for it, too
			zeros++
			accept(t, "ffff", withField(b, 0xffff), m)
		}
	}
	if zeros != 1 {
		t.Errorf("0000 came %d times", zeros)
	}
	// Of noughts the field is ffff, for which 0000 does not stand: then all
	// bytes are 0.
	for _, n := range []int{0, 1, 2, 1472} {
		m := api.Message{Data: make([]byte, n)}
		b := put(t, m)
		if fieldIn(b) != 0xffff {
			t.Errorf("Data of %d: the field is %04x", n, fieldIn(b))
		}
		accept(t, "noughts", b, m)
		refuse(t, "noughts, 0000", withField(b, 0), api.ErrSum)
	}
}

func TestBitTurned(t *testing.T) { // P8.5
	var c chance = 2
	all := []api.Message{{}, full(), {Type: 255, Code: 255}, {Type: 255, Code: 255, Rest: 0xffffffff, Data: []byte{255}}, {Data: make([]byte, 5)}, c.message(1471), c.message(1472)}
	for n := range 80 {
		all = append(all, c.message(n))
	}
	for _, m := range all {
		b := put(t, m)
		for bit := range 8 * len(b) {
			b[bit/8] ^= 1 << (bit % 8)
			if got, e := icmp.Parse(b); e != api.ErrSum || !same(got, api.Message{}) {
				t.Errorf("%+v, bit %d turned: %+v, %d", m, bit, got, e)
			}
			b[bit/8] ^= 1 << (bit % 8)
		}
		accept(t, "turned back", b, m)
	}
}

// sortOf is Sort, in another way than the program's.
func sortOf(kind, code byte) int {
	switch {
	case kind == 8 && code == 0:
		return icmp.Asked
	case kind == 0 && code == 0:
		return icmp.Told
	case kind == 3 || kind == 11 || kind == 12:
		return icmp.Error
	}
	return icmp.Other
}

// eachKind hands do a message of each Type and each Code, and its sort.
func eachKind(do func(m api.Message, sort int)) {
	var c chance = 3
	for n := range 1 << 16 {
		m := c.message(int(c.next() % 10))
		m.Type, m.Code = byte(n>>8), byte(n)
		do(m, sortOf(m.Type, m.Code))
	}
}

func TestSort(t *testing.T) { // P8.2
	if [4]int{icmp.Other, icmp.Asked, icmp.Told, icmp.Error} != [4]int{0, 1, 2, 3} {
		t.Error("the sorts are others")
	}
	seen := [4]int{}
	eachKind(func(m api.Message, sort int) {
		seen[sort]++
		before := cloned(m)
		if got := icmp.Sort(m); got != sort || !same(m, before) {
			t.Errorf("Sort(%+v) = %d, want %d", m, got, sort)
		}
	})
	if seen != [4]int{1<<16 - 2 - 3*256, 1, 1, 3 * 256} {
		t.Errorf("the sorts came %v times", seen)
	}
	// Rest and Data have no part in it, also if the message may not be.
	for _, m := range []api.Message{{}, {Rest: 0xffffffff}, {Data: []byte("x")}, {Data: make([]byte, 1473)}} {
		for _, kind := range []byte{8, 0, 3, 11, 12, 4, 13} {
			m.Type = kind
			if got := icmp.Sort(m); got != sortOf(kind, 0) {
				t.Errorf("Type %d, Rest %x, Data of %d: %d", kind, m.Rest, len(m.Data), got)
			}
		}
	}
}

func TestEcho(t *testing.T) { // P8.2
	eachKind(func(m api.Message, sort int) {
		id, number, is := icmp.Echo(m)
		if sort == icmp.Asked || sort == icmp.Told {
			if !is || uint32(id) != m.Rest/65536 || uint32(number) != m.Rest%65536 {
				t.Errorf("Echo(%+v) = %x, %x, %v", m, id, number, is)
			}
		} else if is || id != 0 || number != 0 {
			t.Errorf("Echo(%+v) = %x, %x, %v", m, id, number, is)
		}
	})
	for _, kind := range []byte{0, 8} {
		for _, x := range []struct {
			rest       uint32
			id, number uint16
		}{
			{0, 0, 0}, {1, 0, 1}, {0xffff, 0, 0xffff}, {0x10000, 1, 0}, {0xffff0000, 0xffff, 0}, {0xffffffff, 0xffff, 0xffff},
			{0x12345678, 0x1234, 0x5678}, {0x80008000, 0x8000, 0x8000},
		} {
			for _, n := range []int{0, 1, 1472, 1473} {
				m := api.Message{Type: kind, Rest: x.rest, Data: make([]byte, n)}
				if id, number, is := icmp.Echo(m); id != x.id || number != x.number || !is {
					t.Errorf("Type %d, Rest %x, Data of %d: %x, %x, %v", kind, x.rest, n, id, number, is)
				}
			}
		}
	}
}

func TestWithId(t *testing.T) { // P8.2
	eachKind(func(m api.Message, sort int) {
		before, want := cloned(m), cloned(m)
		if sort == icmp.Asked || sort == icmp.Told {
			want.Rest = 300*65536 + m.Rest%65536
		}
		if got := icmp.WithId(m, 300); !same(got, want) || !same(m, before) {
			t.Errorf("WithId(%+v, 300) = %+v, want %+v", before, got, want)
		}
	})
	for _, kind := range []byte{0, 8} {
		for id := range 1 << 16 {
			m := api.Message{Type: kind, Rest: 0x12345678, Data: []byte("x")}
			want := api.Message{Type: kind, Rest: uint32(id)*65536 + 0x5678, Data: []byte("x")}
			if got := icmp.WithId(m, uint16(id)); !same(got, want) {
				t.Errorf("WithId(%+v, %x) = %+v", m, id, got)
			}
		}
	}
	// Also of one that may not be.
	long := api.Message{Type: 8, Data: make([]byte, 1473)}
	if got := icmp.WithId(long, 1); got.Rest != 1<<16 || len(got.Data) != 1473 {
		t.Errorf("of a long one: %x, Data of %d", got.Rest, len(got.Data))
	}
}

func TestWithIdIsNew(t *testing.T) { // R3
	for _, kind := range []byte{0, 3, 8, 13} { // also of one that stays as it is
		all := []byte("abcdefgh")
		m := api.Message{Type: kind, Data: all[2:4]}
		got, other := icmp.WithId(m, 7), icmp.WithId(m, 7)
		clear(got.Data[:cap(got.Data)])
		if string(all) != "abcdefgh" {
			t.Errorf("Type %d: what was handed in became %q", kind, all)
		}
		clear(all)
		if string(other.Data) != "cd" {
			t.Errorf("Type %d: what was told became %+v", kind, other)
		}
	}
}

func TestIdBack(t *testing.T) { // P8.6
	var c chance = 5
	for range 20000 {
		m := c.echo(int(c.next() % 20))
		was, number, _ := icmp.Echo(m)
		id := uint16(c.next())
		changed := icmp.WithId(m, id)
		if gotId, gotNumber, is := icmp.Echo(changed); gotId != id || gotNumber != number || !is {
			t.Errorf("%+v with id %x: %x, %x, %v", m, id, gotId, gotNumber, is)
		}
		if changed.Type != m.Type || changed.Code != m.Code || !bytes.Equal(changed.Data, m.Data) {
			t.Errorf("%+v with id %x: %+v", m, id, changed)
		}
		if back := icmp.WithId(changed, was); !same(back, m) {
			t.Errorf("%+v with id %x, and back: %+v", m, id, back)
		}
	}
}

func TestExceeded(t *testing.T) { // P8.3
	var c chance = 7
	lengths := []int{1472, 1473, 1500, 1 << 16, 1 << 20}
	for n := range 200 {
		lengths = append(lengths, n)
	}
	for _, n := range lengths {
		data := c.bytes(n)
		before := bytes.Clone(data)
		m := icmp.Exceeded(data)
		if want := (api.Message{Type: 11, Data: before[:min(n, 68)]}); !same(m, want) {
			t.Errorf("of %d bytes % x: %+v", n, before, m)
		}
		if !bytes.Equal(data, before) {
			t.Errorf("% x became % x", before, data)
		}
		if icmp.Sort(m) != icmp.Error {
			t.Errorf("of %d bytes: its sort is %d", n, icmp.Sort(m))
		}
		accept(t, "put", put(t, m), m)
	}
	if m := icmp.Exceeded(nil); !same(m, api.Message{Type: 11}) {
		t.Errorf("of nil: %+v", m)
	}
}

func TestExceededIsNew(t *testing.T) { // R3
	for _, n := range []int{1, 67, 68, 69, 100} {
		all := bytes.Repeat([]byte("a"), 200)
		m, other := icmp.Exceeded(all[:n]), icmp.Exceeded(all[:n])
		if want := min(n, 68); len(m.Data) != want { // whatever stands behind the data
			t.Errorf("%d bytes: Data of %d, want %d", n, len(m.Data), want)
		}
		clear(m.Data[:cap(m.Data)])
		if bytes.ContainsRune(all, 0) {
			t.Errorf("%d bytes: what was handed in became %q", n, all)
		}
		clear(all)
		if bytes.ContainsRune(other.Data, 0) {
			t.Errorf("%d bytes: what was told became %q", n, other.Data)
		}
	}
}

func TestExamples(t *testing.T) {
	m := api.Message{Type: 8, Rest: 0x00010002}
	if b := put(t, m); string(b) != "\x08\x00\xf7\xfc\x00\x01\x00\x02" {
		t.Errorf("% x", b)
	}
	if id, number, is := icmp.Echo(m); id != 1 || number != 2 || !is {
		t.Errorf("%d, %d, %v", id, number, is)
	}
	for _, x := range []struct {
		m    api.Message
		want int
	}{
		{m, icmp.Asked},
		{api.Message{Type: 3}, icmp.Error},
		{api.Message{Type: 13}, icmp.Other},
		{api.Message{Type: 8, Code: 1}, icmp.Other},
	} {
		if got := icmp.Sort(x.m); got != x.want {
			t.Errorf("Sort(%+v) = %d, want %d", x.m, got, x.want)
		}
	}
	refuse(t, "7 bytes", make([]byte, 7), api.ErrShort)
	refuse(t, "eight 00", make([]byte, 8), api.ErrSum)
}
