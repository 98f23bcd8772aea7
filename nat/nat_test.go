package nat_test

import (
	"bytes"
	"slices"
	"testing"

	"culvert/api"
	"culvert/nat"
	"culvert/packet"
	"culvert/tuple"
)

// Addresses of these tests: of an inside one, of a destination, and the outer
// one.
const (
	own   = 0x0a000002
	far   = 0xc0000201
	outer = 0xc6336401
)

// protos are all there are.
func protos() []byte {
	return []byte{api.Tcp, api.Udp, api.Icmp}
}

// chance makes numbers that look like chance, always the same ones.
type chance uint64

func (c *chance) next() uint64 {
	*c = *c*6364136223846793005 + 1442695040888963407
	return uint64(*c) >> 32
}

func (c *chance) bytes(n int) []byte {
	out := make([]byte, n)
	for i := range out {
		out[i] = byte(c.next())
	}
	return out
}

// number makes a number of 32 bits, of which each half is 0000 or ffff more
// often than by chance.
func (c *chance) number() uint32 {
	half := func() uint32 {
		row := []uint32{0, 0xffff, 1, 0xfffe, 0x00ff, 0xff00}
		if n := c.next() % 12; n < 6 {
			return row[n]
		}
		return uint32(c.next() & 0xffff)
	}
	return half()<<16 | half()
}

// tuple makes any tuple to which a packet of a Proto may be rewritten.
func (c *chance) tuple(proto byte) api.Tuple {
	to := api.Tuple{
		Proto: proto, Src: c.number(), Dst: c.number(),
		SPort: uint16(c.number()), DPort: uint16(c.number()),
	}
	if proto == api.Icmp {
		to.DPort = 0
	}
	return to
}

// packet makes a packet that may be and has a tuple, with n bytes of Data.
func (c *chance) packet(proto byte, n int) api.Packet {
	who := c.tuple(proto)
	p := api.Packet{Head: api.Head{
		Tos: byte(c.next()), Id: uint16(c.next()), Df: c.next()%2 == 0,
		Ttl: byte(c.next()%254) + 2, Proto: proto, Src: who.Src, Dst: who.Dst,
		Opts: c.bytes(int(c.next()%11) * 4),
	}}
	switch proto {
	case api.Tcp:
		p.Segment = api.Segment{
			SPort: who.SPort, DPort: who.DPort, Seq: uint32(c.next()), Ack: uint32(c.next()),
			Flags: byte(c.next()), Win: uint16(c.next()), Urg: uint16(c.next()),
			Opts: []api.Opt{{Kind: 9, Data: c.bytes(int(c.next() % 30))}}, Data: c.bytes(n),
		}
	case api.Udp:
		p.Datagram = api.Datagram{SPort: who.SPort, DPort: who.DPort, Data: c.bytes(n)}
	case api.Icmp:
		p.Message = api.Message{Type: byte(c.next()%2) * 8, Rest: uint32(who.SPort)<<16 | uint32(c.next()&0xffff), Data: c.bytes(n)}
	}
	return p
}

// with is p with the addresses and ports, or the id, of to.
func with(p api.Packet, to api.Tuple) api.Packet {
	p.Head.Src, p.Head.Dst = to.Src, to.Dst
	switch p.Head.Proto {
	case api.Tcp:
		p.Segment.SPort, p.Segment.DPort = to.SPort, to.DPort
	case api.Udp:
		p.Datagram.SPort, p.Datagram.DPort = to.SPort, to.DPort
	case api.Icmp:
		p.Message.Rest = uint32(to.SPort)<<16 | p.Message.Rest&0xffff
	}
	return p
}

// less is p with a Ttl that is less by n.
func less(p api.Packet, n byte) api.Packet {
	p.Head.Ttl -= n
	return p
}

// small is a packet of a Proto, from own port (id) 4000 to far port 80, with
// that Ttl.
func small(proto, ttl byte) api.Packet {
	p := api.Packet{Head: api.Head{Id: 0x1234, Df: true, Ttl: ttl, Proto: proto, Src: own, Dst: far}}
	switch proto {
	case api.Tcp:
		p.Segment = api.Segment{
			SPort: 4000, DPort: 80, Seq: 0x01020304, Flags: api.Syn, Win: 64240,
			Opts: []api.Opt{{Kind: 2, Data: []byte("\x05\xb4")}}, Data: []byte("abc"),
		}
	case api.Udp:
		p.Head.Opts = []byte{7, 7, 4, 0, 1, 2, 3, 4}
		p.Datagram = api.Datagram{SPort: 4000, DPort: 80, Data: []byte("who?!")}
	case api.Icmp:
		p.Message = api.Message{Type: 8, Rest: 4000<<16 | 1, Data: []byte("ping!")}
	}
	return p
}

// there is the tuple from outer port (id) 20000 to far.
func there(proto byte) api.Tuple {
	to := api.Tuple{Proto: proto, Src: outer, Dst: far, SPort: 20000}
	if proto != api.Icmp {
		to.DPort = 80
	}
	return to
}

// put makes the bytes of a packet.
func put(t *testing.T, p api.Packet) []byte {
	t.Helper()
	b, e := packet.Put(p)
	if e != api.OK {
		t.Fatalf("Put(%v): %d", p, e)
	}
	return b
}

// parsed reads the packet of bytes, which must be one.
func parsed(t *testing.T, b []byte) api.Packet {
	t.Helper()
	p, e := packet.Parse(b)
	if e != api.OK {
		t.Fatalf("Parse(% x): %d", b, e)
	}
	return p
}

// tupleOf tells the tuple of a packet's bytes, which must have one.
func tupleOf(t *testing.T, b []byte) api.Tuple {
	t.Helper()
	u, is := tuple.Of(parsed(t, b))
	if !is {
		t.Fatalf("% x has no tuple", b)
	}
	return u
}

// rewritten tells what Rewrite tells, which must be no error.
func rewritten(t *testing.T, b []byte, to api.Tuple, hop bool) []byte {
	t.Helper()
	out, e := nat.Rewrite(b, to, hop)
	if e != api.OK {
		t.Fatalf("Rewrite(% x, %v, %v): %d", b, to, hop, e)
	}
	return out
}

// refuses asks whether Rewrite tells an error, and nothing else.
func refuses(t *testing.T, b []byte, to api.Tuple, hop bool, want api.Errno) {
	t.Helper()
	if out, e := nat.Rewrite(b, to, hop); e != want || len(out) > 0 {
		t.Errorf("Rewrite(% x, %v, %v) = % x, %d; want the error %d", b, to, hop, out, e, want)
	}
}

// hops holds what Hop tells against bytes and an error.
func hops(t *testing.T, b, want []byte, e api.Errno) {
	t.Helper()
	if got, f := nat.Hop(b); f != e || !bytes.Equal(got, want) {
		t.Errorf("Hop(% x) = % x, %d; want % x, %d", b, got, f, want, e)
	}
}

// is holds bytes against others.
func is(t *testing.T, got, want []byte) {
	t.Helper()
	if !bytes.Equal(got, want) {
		t.Errorf("% x, want % x", got, want)
	}
}

// get reads a word of bytes.
func get(b []byte, at int) uint16 { return uint16(b[at])<<8 | uint16(b[at+1]) }

// set lays a word into bytes.
func set(b []byte, at int, n uint16) { b[at], b[at+1] = byte(n>>8), byte(n) }

// ahead tells how many bytes a header has.
func ahead(b []byte) int { return int(b[0]&15) * 4 }

// behind tells where the field of a packet's payload stands.
func behind(b []byte) int {
	return ahead(b) + map[byte]int{1: 2, 6: 16, 17: 6}[b[9]]
}

// fold adds what is above 16 bits to what is below, until nothing is above.
func fold(n uint32) uint16 {
	for n>>16 > 0 {
		n = n&0xffff + n>>16
	}
	return uint16(n)
}

// added tells the words of bytes, added.
func added(b []byte) uint32 {
	n := uint32(0)
	for i, x := range b {
		n += uint32(x) << (8 - i%2*8)
	}
	return n
}

// change changes a word as the chapter's words say it, field by field, apart
// from the program.
func change(b []byte, at int, to uint16) {
	was, proto := get(b, at), b[9]
	set(b, at, to)
	next := func(field uint16) uint16 {
		return ^fold(uint32(^field) + uint32(^was) + uint32(to))
	}
	if at < ahead(b) {
		set(b, 10, next(get(b, 10)))
	}
	field := get(b, behind(b))
	address := at >= 12 && at < 20
	if at < ahead(b) && (!address || proto == 1) || proto == 17 && field == 0 {
		return
	}
	field = next(field)
	if field == 0 && proto != 6 {
		field = 0xffff
	}
	set(b, behind(b), field)
}

// model does what Rewrite does, apart from the program.
func model(b []byte, to api.Tuple, hop bool) []byte {
	b = slices.Clone(b)
	change(b, 12, uint16(to.Src>>16))
	change(b, 14, uint16(to.Src))
	change(b, 16, uint16(to.Dst>>16))
	change(b, 18, uint16(to.Dst))
	if b[9] == 1 {
		change(b, ahead(b)+4, to.SPort)
	} else {
		change(b, ahead(b), to.SPort)
		change(b, ahead(b)+2, to.DPort)
	}
	if hop {
		change(b, 8, get(b, 8)-0x100)
	}
	return b
}

// anew is a packet's bytes with both fields laid anew; that of Udp stays 0000.
func anew(b []byte) []byte {
	b = slices.Clone(b)
	set(b, 10, 0)
	set(b, 10, ^fold(added(b[:ahead(b)])))
	if b[9] == 17 && get(b, behind(b)) == 0 {
		return b
	}
	set(b, behind(b), 0)
	body := b[ahead(b):]
	all := added(body)
	if b[9] != 1 {
		all += added(b[12:20]) + uint32(b[9]) + uint32(len(body))
	}
	set(b, behind(b), ^fold(all))
	return b
}

// even is a packet's bytes with fields 0000 for ffff.
func even(b []byte) []byte {
	b = slices.Clone(b)
	for _, at := range []int{10, behind(b)} {
		if get(b, at) == 0xffff {
			set(b, at, 0)
		}
	}
	return b
}

// each hands do n packets, of all Protos, with tuples to which they may be
// rewritten.
func each(seed, n int, do func(c *chance, p api.Packet, to api.Tuple)) {
	c := chance(seed)
	for i := range n {
		proto := protos()[i%3]
		do(&c, c.packet(proto, int(c.next()%60)), c.tuple(proto))
	}
}

// noField is the bytes of a datagram with 0000 in its field's place.
func noField(b []byte) []byte {
	b = slices.Clone(b)
	set(b, behind(b), 0)
	return b
}

// laid are the bytes of small, of it rewritten to there with hop, and of it a
// hop further, as they were worked out apart from the program.
func laid(proto byte) (first, went, further []byte) {
	h := "\x12\x34\x40\x00"
	a, b := "\x0a\x00\x00\x02\xc0\x00\x02\x01", "\xc6\x33\x64\x01\xc0\x00\x02\x01"
	switch proto {
	case api.Tcp:
		h = "\x45\x00\x00\x2f" + h
		seq, tail := "\x00\x50\x01\x02\x03\x04\x00\x00\x00\x00\x60\x02\xfa\xf0", "\x00\x00\x02\x04\x05\xb4abc"
		return []byte(h + "\x40\x06\x5c\x92" + a + "\x0f\xa0" + seq + "\xf8\xd6" + tail),
			[]byte(h + "\x3f\x06\x3d\x5f" + b + "\x4e\x20" + seq + "\x9a\x23" + tail),
			[]byte(h + "\x3f\x06\x5d\x92" + a + "\x0f\xa0" + seq + "\xf8\xd6" + tail)
	case api.Udp:
		h = "\x47\x00\x00\x29" + h
		o := "\x07\x07\x04\x00\x01\x02\x03\x04"
		return []byte(h + "\x40\x11\x4b\x80" + a + o + "\x0f\xa0\x00\x50\x00\x0d\x1c\x39who?!"),
			[]byte(h + "\x3f\x11\x2c\x4d" + b + o + "\x4e\x20\x00\x50\x00\x0d\xbd\x85who?!"),
			[]byte(h + "\x3f\x11\x4c\x80" + a + o + "\x0f\xa0\x00\x50\x00\x0d\x1c\x39who?!")
	}
	h = "\x45\x00\x00\x21" + h
	return []byte(h + "\x40\x01\x5c\xa5" + a + "\x08\x00\xe8\x8d\x0f\xa0\x00\x01ping!"),
		[]byte(h + "\x3f\x01\x3d\x72" + b + "\x08\x00\xaa\x0d\x4e\x20\x00\x01ping!"),
		[]byte(h + "\x3f\x01\x5d\xa5" + a + "\x08\x00\xe8\x8d\x0f\xa0\x00\x01ping!")
}

func TestExamples(t *testing.T) {
	syn := packet.Tcp(own, far, api.Segment{SPort: 4000, DPort: 80, Seq: 7, Flags: api.Syn, Win: 64240})
	to := api.Tuple{Proto: api.Tcp, Src: outer, Dst: far, SPort: 20000, DPort: 80}
	got := parsed(t, rewritten(t, put(t, syn), to, true))
	if !packet.Same(got, less(with(syn, to), 1)) {
		t.Errorf("a SYN became %v", got)
	}
	c := chance(1)
	bare := noField(put(t, small(api.Udp, 64)))
	for range 100 {
		if b := rewritten(t, bare, c.tuple(api.Udp), c.next()%2 == 0); get(b, behind(b)) != 0 {
			t.Errorf("no field became one: % x", b)
		}
	}
	refuses(t, put(t, small(api.Icmp, 1)), there(api.Icmp), true, api.ErrTtl)
}

func TestLaid(t *testing.T) { // P15.1, P15.2
	for _, proto := range protos() {
		first, went, further := laid(proto)
		is(t, put(t, small(proto, 64)), first)
		is(t, rewritten(t, first, there(proto), true), went)
		hops(t, first, further, api.OK)
		is(t, rewritten(t, further, there(proto), false), went)
		hops(t, rewritten(t, first, there(proto), false), went, api.OK)
	}
}

func TestRewriteWordByWord(t *testing.T) { // P15.1
	each(2, 9000, func(c *chance, p api.Packet, to api.Tuple) {
		b, hop := put(t, p), c.next()%2 == 0
		if c.next()%4 == 0 && p.Head.Proto == api.Udp {
			b = noField(b)
		}
		want := model(b, to, hop)
		if got := rewritten(t, b, to, hop); !bytes.Equal(got, want) {
			t.Fatalf("Rewrite(% x, %v, %v) = % x, want % x", b, to, hop, got, want)
		}
	})
}

// One thing at a time becomes another one: no other one does.
func TestRewriteOneThing(t *testing.T) { // P15.1
	for _, proto := range protos() {
		b := put(t, small(proto, 64))
		for bit := range 32 {
			for n, turn := range []func(to *api.Tuple){
				func(to *api.Tuple) { to.Src ^= 1 << bit },
				func(to *api.Tuple) { to.Dst ^= 1 << bit },
				func(to *api.Tuple) { to.SPort ^= 1 << (bit % 16) },
				func(to *api.Tuple) { to.DPort ^= 1 << (bit % 16) },
			} {
				to := tupleOf(t, b)
				if turn(&to); proto == api.Icmp && n == 3 {
					refuses(t, b, to, false, api.ErrArg)
					continue
				}
				is(t, rewritten(t, b, to, false), put(t, with(small(proto, 64), to)))
			}
		}
	}
}

// The number of an echo, and whether it is asked or told, stay.
func TestRewriteEchoes(t *testing.T) { // P15.1
	for _, kind := range []byte{0, 8} {
		for _, id := range []uint16{0, 1, 255, 256, 1 << 15, 1<<16 - 1} {
			for _, number := range []uint16{0, 1, 256, 1<<16 - 1} {
				p := packet.Icmp(own, far, api.Message{Type: kind, Rest: 300<<16 | uint32(number), Data: []byte("ping")})
				to := api.Tuple{Proto: api.Icmp, Src: outer, Dst: 1, SPort: id}
				got := parsed(t, rewritten(t, put(t, p), to, false))
				p.Head.Src, p.Head.Dst, p.Message.Rest = outer, 1, uint32(id)<<16|uint32(number)
				if !packet.Same(got, p) {
					t.Errorf("%v, want %v", got, p)
				}
			}
		}
	}
}

// wrong are bytes that are no packet's, by packet.Parse's errors.
func wrong(t *testing.T, proto byte) map[api.Errno][][]byte {
	b := put(t, small(proto, 64))
	changed := func(at int, to uint16) []byte {
		out := slices.Clone(b)
		change(out, at, to)
		return out
	}
	turned := func(at int) []byte {
		out := slices.Clone(b)
		out[at]++
		return out
	}
	version := slices.Clone(b)
	version[0] += 0x10
	return map[api.Errno][][]byte{
		api.ErrLong:     {make([]byte, api.MaxPacket+1), append(slices.Clone(b), make([]byte, api.MaxPacket)...)},
		api.ErrShort:    {nil, {}, {0x45}, b[:19], b[:20], b[:len(b)-1]},
		api.ErrForm:     {make([]byte, 20), append(slices.Clone(b), 0), version, changed(6, 0x8000)},
		api.ErrSum:      {turned(8), turned(10), turned(19), turned(behind(b)), turned(len(b) - 1)},
		api.ErrFragment: {changed(6, 0x2000), changed(6, 1), changed(6, 0x5fff)},
		api.ErrTtl:      {changed(8, uint16(proto))},
		api.ErrProto:    {changed(8, 0x4000), changed(8, 0x4000|47), changed(8, 0x40ff)},
	}
}

func TestNoPackets(t *testing.T) { // P15.1, P15.2: packet.Parse's error
	for _, proto := range protos() {
		for want, l := range wrong(t, proto) {
			for _, b := range l {
				if _, e := packet.Parse(b); e != want {
					t.Fatalf("Parse(% x): %d, want %d", b, e, want)
				}
				for _, hop := range []bool{false, true} {
					refuses(t, b, there(proto), hop, want)
					refuses(t, b, api.Tuple{}, hop, want)
				}
				hops(t, b, nil, want)
			}
		}
	}
}

// Whatever bytes there are: an error of them is packet.Parse's.
func TestAnyBytes(t *testing.T) { // P15.1, P15.2, R1
	c := chance(3)
	for n := range 6000 {
		b := c.bytes(int(c.next() % 80))
		if n%2 == 0 {
			b = put(t, c.packet(protos()[n%3], int(c.next()%9)))
			for range c.next() % 3 {
				b[c.next()%uint64(len(b))] = byte(c.next())
			}
			b = b[:len(b)-int(c.next()%2)]
		}
		if _, want := packet.Parse(b); want != api.OK {
			refuses(t, b, c.tuple(protos()[c.next()%3]), c.next()%2 == 0, want)
			hops(t, b, nil, want)
		}
	}
}

func TestNoTuple(t *testing.T) { // P15.1, P15.2
	for n := range 1 << 16 {
		p := packet.Icmp(own, far, api.Message{Type: byte(n >> 8), Code: byte(n), Rest: 7 << 16})
		b := put(t, p)
		if n == 0 || n == 8<<8 { // echoes
			rewritten(t, b, there(api.Icmp), true)
			continue
		}
		refuses(t, b, there(api.Icmp), n%2 == 0, api.ErrProto)
		got, e := nat.Hop(b)
		if e != api.OK || !packet.Same(parsed(t, got), less(p, 1)) {
			t.Errorf("Hop(% x) = % x, %d", b, got, e)
		}
	}
}

func TestAnotherProto(t *testing.T) { // P15.1
	for _, proto := range protos() {
		b := put(t, small(proto, 64))
		for n := range 256 {
			to := there(proto)
			if to.Proto = byte(n); to.Proto == proto {
				is(t, rewritten(t, b, to, false), put(t, with(small(proto, 64), to)))
			} else {
				refuses(t, b, to, n%2 == 0, api.ErrArg)
			}
		}
		refuses(t, b, api.Tuple{}, false, api.ErrArg)
	}
}

func TestDPort(t *testing.T) { // P15.1: any of Tcp and Udp, of an echo just 0
	for n := range 1 << 16 {
		for _, proto := range protos() {
			first, _, _ := laid(proto)
			to := there(proto)
			to.DPort = uint16(n)
			_, e := nat.Rewrite(first, to, false)
			if want := proto == api.Icmp && n != 0; want != (e == api.ErrArg) || !want && e != api.OK {
				t.Errorf("Proto %d, DPort %d: %d", proto, n, e)
			}
		}
	}
}

func TestTtl(t *testing.T) { // P15.1, P15.2
	for _, proto := range protos() {
		for ttl := 1; ttl < 256; ttl++ { // 0 is that of no packet
			p := small(proto, byte(ttl))
			b, to := put(t, p), there(proto)
			is(t, even(rewritten(t, b, to, false)), even(put(t, with(p, to))))
			if ttl == 1 {
				refuses(t, b, to, true, api.ErrTtl)
				hops(t, b, nil, api.ErrTtl)
				continue
			}
			is(t, even(rewritten(t, b, to, true)), even(put(t, less(with(p, to), 1))))
			got, e := nat.Hop(b)
			if e != api.OK {
				t.Errorf("Hop of Ttl %d: %d", ttl, e)
			}
			is(t, even(got), even(put(t, less(p, 1))))
		}
	}
}

// Of several errors the one that P15.1 names first is told.
func TestErrorsInOrder(t *testing.T) { // P15.1, R5
	other := put(t, packet.Icmp(own, far, api.Message{Type: 3}))
	last := put(t, less(packet.Icmp(own, far, api.Message{Type: 3}), 63))
	torn := slices.Clone(last)
	torn[21]++ // its Code
	echo := there(api.Icmp)
	echo.DPort = 1
	refuses(t, torn, api.Tuple{}, true, api.ErrSum) // and all others
	refuses(t, last, api.Tuple{}, true, api.ErrProto)
	refuses(t, last, echo, true, api.ErrProto)
	refuses(t, last, there(api.Icmp), true, api.ErrProto)
	refuses(t, other, there(api.Tcp), true, api.ErrProto)
	refuses(t, put(t, small(api.Icmp, 1)), echo, true, api.ErrArg)
	for _, proto := range protos() {
		refuses(t, put(t, small(proto, 1)), api.Tuple{}, true, api.ErrArg)
		refuses(t, put(t, small(proto, 1)), there(proto), true, api.ErrTtl)
	}
}

// Hop changes the word of Ttl and Proto, and the header's field, nothing else:
// not a payload's field 0000 or ffff, either.
func TestHop(t *testing.T) { // P15.2
	each(4, 6000, func(c *chance, p api.Packet, _ api.Tuple) {
		b := put(t, p)
		want := slices.Clone(b)
		change(want, 8, get(b, 8)-0x100)
		hops(t, b, want, api.OK)
		if !packet.Same(parsed(t, want), less(p, 1)) {
			t.Fatalf("Hop(% x) is %v", b, parsed(t, want))
		}
	})
	hops(t, noField(put(t, small(api.Udp, 9))), noField(put(t, small(api.Udp, 8))), api.OK)
	for _, proto := range protos() {
		for _, field := range []uint16{0, 0xffff} {
			b := fieldOf(t, proto, field)
			got, e := nat.Hop(b)
			if e != api.OK || !bytes.Equal(got[20:], b[20:]) {
				t.Errorf("Hop(% x) = % x, %d", b, got, e)
			}
		}
	}
}

// fieldOf makes a packet of which the payload's field is 0000 or ffff, and right
// (that of Udp says, if it is 0000, that there is none).
func fieldOf(t *testing.T, proto byte, field uint16) []byte {
	t.Helper()
	p := packet.Tcp(own, far, api.Segment{SPort: 4000, DPort: 80, Flags: api.Ack})
	switch proto {
	case api.Udp:
		p = api.Packet{Head: p.Head, Datagram: api.Datagram{SPort: 4000, DPort: 80, Data: []byte{0, 0}}}
	case api.Icmp:
		p = packet.Icmp(own, far, api.Message{Type: 8, Rest: 4000<<16 | 1, Data: []byte{0, 0}})
	}
	p.Head.Proto = proto
	b := put(t, p)
	// A word of noughts takes what the field was: then 0000 and ffff are right.
	free := map[byte]int{api.Tcp: 38, api.Udp: 28, api.Icmp: 28}[proto]
	set(b, free, get(b, behind(b)))
	set(b, behind(b), field)
	parsed(t, b)
	return b
}

// headOf makes a packet of which the header's field is 0000 or ffff, and right.
func headOf(t *testing.T, proto byte, field uint16) []byte {
	t.Helper()
	p := small(proto, 64)
	p.Head.Id = 0
	b := put(t, p)
	set(b, 4, get(b, 10)) // the Id
	set(b, 10, field)
	parsed(t, b)
	return b
}

// A field ffff becomes 0000 where a word becomes itself, and 0000 stays, but that
// ffff stands for it of Udp and Icmp.
func TestFieldsOfNoughts(t *testing.T) { // P15.1, P15.4
	for _, proto := range protos() {
		for _, field := range []uint16{0, 0xffff} {
			b := headOf(t, proto, field)
			got := rewritten(t, b, tupleOf(t, b), false)
			want := slices.Clone(b)
			set(want, 10, 0)
			is(t, got, want)

			b = fieldOf(t, proto, field)
			got = rewritten(t, b, tupleOf(t, b), false)
			want = slices.Clone(b)
			switch {
			case proto == api.Tcp:
				set(want, behind(b), 0)
			case proto == api.Icmp:
				set(want, behind(b), 0xffff)
			}
			is(t, got, want)
		}
	}
}

// A field 0000 says that there is none of Udp alone; all else goes on from there.
func TestFromNought(t *testing.T) { // P15.1, P15.3
	for _, proto := range protos() {
		for n, b := range [][]byte{headOf(t, proto, 0), headOf(t, proto, 0xffff), fieldOf(t, proto, 0), fieldOf(t, proto, 0xffff)} {
			got := rewritten(t, b, there(proto), true)
			if !packet.Same(parsed(t, got), less(with(parsed(t, b), there(proto)), 1)) {
				t.Errorf("Rewrite(% x) = % x", b, got)
			}
			is(t, even(got), even(anew(got)))
			if none := get(got, behind(got)) == 0; none != (proto == api.Udp && n == 2) {
				t.Errorf("the field 0000 is there (%v): % x", none, got)
			}
		}
	}
}

// The header's field may become 0000, and goes on from there.
func TestHopThroughNought(t *testing.T) { // P15.2
	for _, proto := range protos() {
		p := small(proto, 65)
		p.Head.Id = 0
		b := put(t, p)
		set(b, 4, fold(uint32(get(b, 10))+0x100)) // of Ttl 64 the field is 0000
		set(b, 10, 0xfeff)
		parsed(t, b)
		for _, want := range []uint16{0, 0x100, 0x200} {
			model := slices.Clone(b)
			change(model, 8, get(b, 8)-0x100)
			hops(t, b, model, api.OK)
			if b = model; get(b, 10) != want {
				t.Errorf("the field is %x, want %x", get(b, 10), want)
			}
			parsed(t, b)
		}
	}
}

// A told echo of noughts has the field ffff, and has it again.
func TestEchoOfNoughts(t *testing.T) { // P15.1, P15.3, P15.4
	none := put(t, packet.Icmp(0, 0, api.Message{}))
	if get(none, 22) != 0xffff {
		t.Fatalf("its field is %x", get(none, 22))
	}
	to := api.Tuple{Proto: api.Icmp}
	is(t, even(rewritten(t, none, to, false)), even(none))
	if b := rewritten(t, none, to, false); get(b, 22) != 0xffff {
		t.Errorf("its field became %x", get(b, 22))
	}
	for id := range 1 << 16 {
		to.SPort = uint16(id)
		went := rewritten(t, none, to, false)
		parsed(t, went)
		back := rewritten(t, went, api.Tuple{Proto: api.Icmp}, false)
		if get(back, 22) != 0xffff || get(went, 24) != uint16(id) {
			t.Errorf("id %d: % x, and back % x", id, went, back)
		}
	}
}

func TestAsIfLaidAnew(t *testing.T) { // P15.3
	each(5, 9000, func(c *chance, p api.Packet, to api.Tuple) {
		b, hop := put(t, p), c.next()%2 == 0
		if c.next()%4 == 0 && p.Head.Proto == api.Udp {
			b = noField(b)
		}
		got := rewritten(t, b, to, hop)
		want := with(p, to)
		if hop {
			want = less(want, 1)
		}
		if back := parsed(t, got); !packet.Same(back, want) {
			t.Fatalf("Rewrite(% x, %v, %v) is %v, want %v", b, to, hop, back, want)
		}
		is(t, even(got), even(anew(got)))
		stay := map[int]bool{} // the places that may change
		for _, at := range []int{8, 10, 11, 12, 13, 14, 15, 16, 17, 18, 19, behind(b), behind(b) + 1} {
			stay[at] = true
		}
		first, n := ahead(b), 4
		if p.Head.Proto == api.Icmp {
			first, n = ahead(b)+4, 2
		}
		for i := range got {
			if !stay[i] && (i < first || i >= first+n) && got[i] != b[i] {
				t.Fatalf("Rewrite(% x, %v, %v) = % x: byte %d", b, to, hop, got, i)
			}
		}
	})
}

func TestOwnTuple(t *testing.T) { // P15.4
	each(6, 6000, func(c *chance, p api.Packet, _ api.Tuple) {
		b := put(t, p)
		if c.next()%4 == 0 && p.Head.Proto == api.Udp {
			b = noField(b)
		}
		is(t, even(rewritten(t, b, tupleOf(t, b), false)), even(b))
	})
}

func TestBack(t *testing.T) { // P15.4
	each(7, 6000, func(c *chance, p api.Packet, to api.Tuple) {
		b := put(t, p)
		if c.next()%4 == 0 && p.Head.Proto == api.Udp {
			b = noField(b)
		}
		went := rewritten(t, b, to, false)
		if tupleOf(t, went) != to {
			t.Fatalf("Rewrite(% x, %v) has the tuple %v", b, to, tupleOf(t, went))
		}
		is(t, even(rewritten(t, went, tupleOf(t, b), false)), even(b))
	})
}

// Every port leads to some field, 0000 and ffff among them.
func TestEachPort(t *testing.T) { // P15.3, P15.5
	for _, proto := range protos() {
		b := put(t, small(proto, 64))
		noughts, fulls := 0, 0
		for port := range 1 << 16 {
			to := there(proto)
			to.SPort = uint16(port)
			got := rewritten(t, b, to, false)
			parsed(t, got)
			switch get(got, behind(got)) {
			case 0:
				noughts++
			case 0xffff:
				fulls++
			}
		}
		if proto == api.Tcp && noughts == 0 || proto != api.Tcp && (noughts > 0 || fulls == 0) {
			t.Errorf("Proto %d: %d fields 0000, %d fields ffff", proto, noughts, fulls)
		}
	}
}

// A field that would be 0000 after some of the words, but not after all of them,
// is there still.
func TestUdpThroughNought(t *testing.T) { // P15.5
	p := small(api.Udp, 64)
	b := put(t, p)
	field := get(b, behind(b))
	for step := range 4 {
		// The word at this step takes the field off, the one behind it puts it on.
		to := tupleOf(t, b)
		more := func(n uint16) uint16 { return fold(uint32(n) + uint32(field)) }
		switch step {
		case 0:
			to.Src = uint32(more(uint16(to.Src>>16)))<<16 | to.Src&0xffff
		case 1:
			to.Src = to.Src&0xffff0000 | uint32(more(uint16(to.Src)))
		case 2:
			to.Dst = uint32(more(uint16(to.Dst>>16)))<<16 | to.Dst&0xffff
		case 3:
			to.Dst = to.Dst&0xffff0000 | uint32(more(uint16(to.Dst)))
		}
		if got := rewritten(t, b, to, false); get(got, behind(got)) != 0xffff {
			t.Errorf("step %d: the field is %x", step, get(got, behind(got)))
		}
		to.SPort++
		got := rewritten(t, b, to, false)
		if get(got, behind(got)) != 0xfffe {
			t.Errorf("step %d: the field is %x", step, get(got, behind(got)))
		}
		parsed(t, got)
	}
}

func TestUdpNone(t *testing.T) { // P15.5
	c := chance(8)
	for range 3000 {
		b := put(t, c.packet(api.Udp, int(c.next()%9)))
		if got := rewritten(t, noField(b), c.tuple(api.Udp), true); get(got, behind(got)) != 0 {
			t.Errorf("a field 0000 became %x", get(got, behind(got)))
		}
		if got := rewritten(t, b, c.tuple(api.Udp), true); get(got, behind(got)) == 0 {
			t.Errorf("a field became 0000: % x", got)
		}
	}
	b := noField(put(t, small(api.Udp, 64)))
	b[len(b)-1]++ // no field is right with any bytes
	want := model(b, there(api.Udp), true)
	is(t, rewritten(t, b, there(api.Udp), true), want)
}

func TestLongest(t *testing.T) { // P15.1, P15.2
	c := chance(9)
	for _, proto := range protos() {
		for _, n := range []int{api.MaxPacket, api.MaxPacket - 1} {
			p := small(proto, 64)
			data := c.bytes(n - len(put(t, p)))
			p.Segment.Data = append(p.Segment.Data, data...)
			p.Datagram.Data = append(p.Datagram.Data, data...)
			p.Message.Data = append(p.Message.Data, data...)
			p = only(p)
			b := put(t, p)
			if len(b) != n {
				t.Fatalf("%d bytes", len(b))
			}
			got := rewritten(t, b, there(proto), true)
			is(t, got, model(b, there(proto), true))
			if !packet.Same(parsed(t, got), less(with(p, there(proto)), 1)) {
				t.Errorf("of %d bytes: % x", n, got)
			}
			further, e := nat.Hop(b)
			if e != api.OK || !packet.Same(parsed(t, further), less(p, 1)) {
				t.Errorf("of %d bytes: % x, %d", n, further, e)
			}
		}
	}
}

// only is a packet without the parts that are not its Proto's.
func only(p api.Packet) api.Packet {
	one := api.Packet{Head: p.Head}
	switch p.Head.Proto {
	case api.Tcp:
		one.Segment = p.Segment
	case api.Udp:
		one.Datagram = p.Datagram
	case api.Icmp:
		one.Message = p.Message
	}
	return one
}

func TestNewMemory(t *testing.T) { // P15.1, P15.2, R3
	for _, proto := range protos() {
		first, went, further := laid(proto)
		b := append(make([]byte, 0, 2000), first...)
		to := tupleOf(t, b)
		for _, do := range []func() ([]byte, api.Errno){
			func() ([]byte, api.Errno) { return nat.Rewrite(b, there(proto), true) },
			func() ([]byte, api.Errno) { return nat.Rewrite(b, to, false) },
			func() ([]byte, api.Errno) { return nat.Hop(b) },
		} {
			x, e := do()
			y, f := do()
			if e != api.OK || f != api.OK {
				t.Fatal(e, f)
			}
			is(t, b, first) // what is handed in is only read
			clear(x)
			_ = append(x, 1)
			is(t, b, first)
			again, _ := do()
			is(t, y, again)
		}
		x, y := rewritten(t, b, there(proto), true), b
		z, _ := nat.Hop(b)
		clear(y[:cap(y)])
		is(t, x, went)
		is(t, z, further)
	}
}

// Whatever goroutines ask at the same time, all of them are answered the same.
func TestAtTheSameTime(t *testing.T) { // R7
	for _, proto := range protos() {
		first, went, further := laid(proto)
		answers := make(chan [2][]byte)
		for range 8 {
			go func() {
				x, _ := nat.Rewrite(first, there(proto), true)
				y, _ := nat.Hop(first)
				answers <- [2][]byte{x, y}
			}()
		}
		for range 8 {
			got := <-answers
			is(t, got[0], went)
			is(t, got[1], further)
		}
	}
}
