package inner_test

import (
	"bytes"
	"math"
	"slices"
	"testing"

	"culvert/api"
	"culvert/inner"
	"culvert/packet"
)

// Addresses of these tests: of an inside one, of a destination, and the outer
// one.
const (
	own   = 0x0a000002
	far   = 0xc0000201
	outer = 0xc6336401
)

// protos are all there are.
func protos() []byte {
	return []byte{api.Tcp, api.Udp, api.Icmp}
}

// chance makes numbers that look like chance, always the same ones.
type chance uint64

func (c *chance) next() uint64 {
	*c = *c*6364136223846793005 + 1442695040888963407
	return uint64(*c) >> 32
}

func (c *chance) bytes(n int) []byte {
	out := make([]byte, n)
	for i := range out {
		out[i] = byte(c.next())
	}
	return out
}

// number makes a number of 32 bits, of which each half is 0000 or ffff more
// often than by chance.
func (c *chance) number() uint32 {
	half := func() uint32 {
		row := []uint32{0, 0xffff, 1, 0xfffe, 0x00ff, 0xff00}
		if n := c.next() % 12; n < 6 {
			return row[n]
		}
		return uint32(c.next() & 0xffff)
	}
	return half()<<16 | half()
}

// tuple makes any tuple of a Proto.
func (c *chance) tuple(proto byte) api.Tuple {
	to := api.Tuple{
		Proto: proto, Src: c.number(), Dst: c.number(),
		SPort: uint16(c.number()), DPort: uint16(c.number()),
	}
	if proto == api.Icmp {
		to.DPort = 0
	}
	return to
}

// packet makes a packet that says q, with n bytes of Data.
func (c *chance) packet(q inner.Quote, n int) api.Packet {
	p := api.Packet{Head: api.Head{
		Tos: byte(c.next()), Id: uint16(c.next()), Df: c.next()%2 == 0,
		Ttl: byte(c.next()%255) + 1, Opts: c.bytes(int(c.next()%11) * 4),
	}}
	switch q.Tuple.Proto {
	case api.Tcp:
		p.Segment = api.Segment{
			Ack: uint32(c.next()), Flags: byte(c.next()), Win: uint16(c.next()), Urg: uint16(c.next()),
			Opts: []api.Opt{{Kind: 9, Data: c.bytes(int(c.next() % 30))}}, Data: c.bytes(n),
		}
	case api.Udp:
		p.Datagram = api.Datagram{Data: c.bytes(n)}
	case api.Icmp:
		p.Message = api.Message{Type: byte(c.next()%2) * 8, Rest: uint32(c.next()), Data: c.bytes(n)}
	}
	return with(p, q)
}

// with is p so that it says q.
func with(p api.Packet, q inner.Quote) api.Packet {
	t := q.Tuple
	p.Head.Proto, p.Head.Src, p.Head.Dst = t.Proto, t.Src, t.Dst
	switch t.Proto {
	case api.Tcp:
		p.Segment.SPort, p.Segment.DPort, p.Segment.Seq = t.SPort, t.DPort, q.Seq
	case api.Udp:
		p.Datagram.SPort, p.Datagram.DPort = t.SPort, t.DPort
	case api.Icmp:
		p.Message.Rest = uint32(t.SPort)<<16 | p.Message.Rest&0xffff
	}
	return p
}

// each hands do n packets, of all Protos, with what they say, and what they are
// to say.
func each(seed, n int, do func(c *chance, p api.Packet, q, to inner.Quote)) {
	c := chance(seed)
	for i := range n {
		proto := protos()[i%3]
		q, to := inner.Quote{Tuple: c.tuple(proto)}, inner.Quote{Tuple: c.tuple(proto)}
		if proto == api.Tcp {
			q.Seq, to.Seq = c.number(), c.number()
		}
		do(&c, c.packet(q, int(c.next()%60)), q, to)
	}
}

// put makes the bytes of a packet.
func put(t *testing.T, p api.Packet) []byte {
	t.Helper()
	b, e := packet.Put(p)
	if e != api.OK {
		t.Fatalf("Put(%v): %d", p, e)
	}
	return b
}

// said asks Read of a quote.
func said(t *testing.T, b []byte) inner.Quote {
	t.Helper()
	q, e := inner.Read(b)
	if e != api.OK {
		t.Fatalf("Read(% x): %d", b, e)
	}
	return q
}

// refuses tells whether Read and Rewrite answer an error, and nothing beside
// it.
func refuses(t *testing.T, b []byte, want api.Errno) {
	t.Helper()
	if q, e := inner.Read(b); e != want || q != (inner.Quote{}) {
		t.Errorf("Read(% x) = %v, %d, want %d", b, q, e, want)
	}
	for _, proto := range []byte{api.Tcp, api.Udp, api.Icmp, 0, 99} {
		out, e := inner.Rewrite(b, api.Tuple{Proto: proto, Src: 1, SPort: 2}, 3)
		if e != want || len(out) > 0 {
			t.Errorf("Rewrite(% x, %d) = % x, %d, want %d", b, proto, out, e, want)
		}
	}
}

// rewritten asks Rewrite.
func rewritten(t *testing.T, b []byte, to api.Tuple, shift uint32) []byte {
	t.Helper()
	out, e := inner.Rewrite(b, to, shift)
	if e != api.OK {
		t.Fatalf("Rewrite(% x, %v, %d): %d", b, to, shift, e)
	}
	return out
}

// is holds bytes against others.
func is(t *testing.T, got, want []byte) {
	t.Helper()
	if !bytes.Equal(got, want) {
		t.Errorf("% x, want % x", got, want)
	}
}

// get reads a word of bytes.
func get(b []byte, at int) uint16 { return uint16(b[at])<<8 | uint16(b[at+1]) }

// set lays a word into bytes.
func set(b []byte, at int, n uint16) { b[at], b[at+1] = byte(n>>8), byte(n) }

// long reads two words of bytes.
func long(b []byte, at int) uint32 { return uint32(get(b, at))<<16 | uint32(get(b, at+2)) }

// ahead tells how many bytes a header has.
func ahead(b []byte) int { return int(b[0]&15) * 4 }

// behind tells where the field behind a quote's header stands.
func behind(b []byte) int {
	return ahead(b) + map[byte]int{1: 2, 6: 16, 17: 6}[b[9]]
}

// changed is bytes with other ones from a place on.
func changed(b []byte, at int, with ...byte) []byte {
	b = slices.Clone(b)
	copy(b[at:], with)
	return b
}

// fold adds what is above 16 bits to what is below, until nothing is above.
func fold(n uint32) uint16 {
	for n>>16 > 0 {
		n = n&0xffff + n>>16
	}
	return uint16(n)
}

// change changes a word as the chapter's words say it, field by field, apart
// from the program.
func change(b []byte, at int, to uint16, none bool) {
	was, proto := get(b, at), b[9]
	set(b, at, to)
	next := func(field uint16) uint16 {
		return ^fold(uint32(^field) + uint32(^was) + uint32(to))
	}
	if at < 20 {
		set(b, 10, next(get(b, 10)))
	}
	if behind(b)+2 > len(b) || at < 20 && proto == 1 || none {
		return
	}
	set(b, behind(b), next(get(b, behind(b))))
}

// model does what Rewrite does, apart from the program.
func model(b []byte, to api.Tuple, shift uint32) []byte {
	b = slices.Clone(b)
	none := b[9] == 17 && get(b, behind(b)) == 0
	change(b, 12, uint16(to.Src>>16), none)
	change(b, 14, uint16(to.Src), none)
	change(b, 16, uint16(to.Dst>>16), none)
	change(b, 18, uint16(to.Dst), none)
	if b[9] == 1 {
		change(b, ahead(b)+4, to.SPort, none)
	} else {
		change(b, ahead(b), to.SPort, none)
		change(b, ahead(b)+2, to.DPort, none)
	}
	if b[9] == 6 {
		seq := long(b, ahead(b)+4) + shift
		change(b, ahead(b)+4, uint16(seq>>16), none)
		change(b, ahead(b)+6, uint16(seq), none)
	}
	if b[9] != 6 && !none && get(b, behind(b)) == 0 {
		set(b, behind(b), 0xffff)
	}
	return b
}

// even is a quote's bytes with fields 0000 for ffff.
func even(b []byte) []byte {
	b = slices.Clone(b)
	for _, at := range []int{10, behind(b)} {
		if at+2 <= len(b) && get(b, at) == 0xffff {
			set(b, at, 0)
		}
	}
	return b
}

// within is a quote's bytes without one with which it ends within its field.
func within(b []byte) []byte {
	if len(b) == behind(b)+1 {
		return b[:len(b)-1]
	}
	return b
}

// noField is the bytes of a datagram with 0000 in its field's place.
func noField(b []byte) []byte {
	return changed(b, behind(b), 0, 0)
}

// laid are the bytes of a packet from outer port (id) 20000, and of the same from
// own port (id) 4000, with Seq ahead by 1000000 (to the base 16), as they were
// worked out apart from the program.
func laid(proto byte) (outside, inside []byte) {
	h := "\x12\x34\x40\x00\x07"
	a, b := "\xc6\x33\x64\x01\xc0\x00\x02\x01", "\x0a\x00\x00\x02\xc0\x00\x02\x01"
	switch proto {
	case api.Tcp:
		h, mid, tail := "\x45\x00\x00\x2d"+h, "\x01\x02\x03\x04\x50\x10\xfa\xf0", "\x00\x00hello"
		return []byte(h + "\x06\x75\x61" + a + "\x4e\x20\x00\x50\xff\xff\xff\xf0" + mid + "\x32\x6f" + tail),
			[]byte(h + "\x06\x95\x94" + b + "\x0f\xa0\x00\x50\x00\xff\xff\xf0" + mid + "\x90\x23" + tail)
	case api.Udp:
		h, o := "\x47\x00\x00\x29"+h, "\x07\x07\x04\x00\x01\x02\x03\x04"
		return []byte(h + "\x11\x64\x4d" + a + o + "\x4e\x20\x00\x35\x00\x0d\xbd\xa0who?!"),
			[]byte(h + "\x11\x84\x80" + b + o + "\x0f\xa0\x00\x35\x00\x0d\x1c\x54who?!")
	}
	h = "\x45\x00\x00\x21" + h
	return []byte(h + "\x01\x75\x72" + a + "\x08\x00\xaa\x0d\x4e\x20\x00\x01ping!"),
		[]byte(h + "\x01\x95\xa5" + b + "\x08\x00\xe8\x8d\x0f\xa0\x00\x01ping!")
}

// step is how far the Seq of laid's second packet is ahead.
const step = 0x01000000

// ends are what laid's packets say.
func ends(proto byte) (outside, inside inner.Quote) {
	a := api.Tuple{Proto: proto, Src: outer, Dst: far, SPort: 20000}
	b := api.Tuple{Proto: proto, Src: own, Dst: far, SPort: 4000}
	switch proto {
	case api.Tcp:
		a.DPort, b.DPort = 80, 80
		return inner.Quote{Tuple: a, Seq: 0xfffffff0}, inner.Quote{Tuple: b, Seq: 0x00fffff0}
	case api.Udp:
		a.DPort, b.DPort = 53, 53
	}
	return inner.Quote{Tuple: a}, inner.Quote{Tuple: b}
}

func TestExamples(t *testing.T) {
	want := inner.Quote{Tuple: api.Tuple{Proto: api.Tcp, Src: 0x0a000001, Dst: 0x0a000002, SPort: 5, DPort: 80}, Seq: 9}
	whole := put(t, with(api.Packet{Head: api.Head{Ttl: 1}}, want))
	b := inner.Of(whole, 8)
	if len(b) != 28 || said(t, b) != want {
		t.Errorf("Read(% x) = %v", b, said(t, b))
	}
	refuses(t, b[:27], api.ErrShort)
	refuses(t, changed(b, 0, 0x55), api.ErrForm)
	refuses(t, changed(b, 9, 47), api.ErrProto)
	if out, e := inner.Rewrite(b, api.Tuple{Proto: api.Udp}, 0); e != api.ErrArg || len(out) > 0 {
		t.Errorf("to a tuple of Udp: % x, %d", out, e)
	}
}

// Each quote of laid's packets, from the least one to the whole.
func TestLaid(t *testing.T) { // P16.1 to P16.4
	for _, proto := range protos() {
		outside, inside := laid(proto)
		a, b := ends(proto)
		for many := 8; many <= len(outside)-ahead(outside); many++ {
			x, y := inner.Of(outside, many), inner.Of(inside, many)
			is(t, x, outside[:ahead(outside)+many])
			if said(t, x) != a || said(t, y) != b {
				t.Errorf("Read: %v, %v, want %v, %v", said(t, x), said(t, y), a, b)
			}
			is(t, within(rewritten(t, x, b.Tuple, step)), within(y))
			is(t, within(rewritten(t, y, a.Tuple, -step&math.MaxUint32)), within(x))
		}
	}
}

func TestRead(t *testing.T) { // P16.1
	each(1, 6000, func(c *chance, p api.Packet, q, _ inner.Quote) {
		b := put(t, p)
		for _, many := range []int{8, 9, 15, 17, 18, int(c.next() % 99), -1} {
			if x := inner.Of(b, many); len(x) >= ahead(b)+8 && said(t, x) != q {
				t.Errorf("Read(% x) = %v, want %v", x, said(t, x), q)
			}
		}
	})
}

// Whatever a quote has beside what it says is not looked at.
func TestNotLookedAt(t *testing.T) { // P16.1
	for _, proto := range protos() {
		b, _ := laid(proto)
		b = b[:ahead(b)+8]
		want, _ := ends(proto)
		places := []int{1, 2, 3, 4, 5, 8, 10, 11} // Tos, how long, Id, Ttl, the field
		for at := 20; at < ahead(b); at++ {
			places = append(places, at)
		}
		switch proto {
		case api.Udp: // how long, the field
			places = append(places, ahead(b)+4, ahead(b)+5, ahead(b)+6, ahead(b)+7)
		case api.Icmp: // the field, the number
			places = append(places, ahead(b)+2, ahead(b)+3, ahead(b)+6, ahead(b)+7)
		}
		for _, at := range places {
			for n := range 256 {
				if x := changed(b, at, byte(n)); said(t, x) != want {
					t.Errorf("Read(% x) = %v, want %v", x, said(t, x), want)
				}
			}
		}
		for n := range 8 { // the bits ahead of the offset
			if x := changed(b, 6, byte(n<<5), 0); said(t, x) != want {
				t.Errorf("Read(% x) = %v, want %v", x, said(t, x), want)
			}
		}
	}
}

func TestShort(t *testing.T) { // P16.1, P16.2
	refuses(t, nil, api.ErrShort)
	refuses(t, []byte{}, api.ErrShort)
	for _, proto := range protos() {
		b, _ := laid(proto)
		for n := range ahead(b) + 8 {
			refuses(t, b[:n], api.ErrShort)
		}
		said(t, b[:ahead(b)+8])
	}
	// A header of each length: 8 behind it, and one fewer.
	for n := 5; n < 16; n++ {
		b := make([]byte, n*4+8)
		b[0], b[9] = 0x40|byte(n), api.Udp
		b[n*4+1], b[n*4+3] = 7, 9
		want := inner.Quote{Tuple: api.Tuple{Proto: api.Udp, SPort: 7, DPort: 9}}
		if said(t, b) != want {
			t.Errorf("Read(% x) = %v", b, said(t, b))
		}
		refuses(t, b[:len(b)-1], api.ErrShort)
		refuses(t, b[:20], api.ErrShort)
	}
}

func TestForm(t *testing.T) { // P16.1, P16.2
	for _, proto := range protos() {
		b, _ := laid(proto)
		b = append(b, make([]byte, 60)...)
		for first := range 256 {
			x := changed(b, 0, byte(first))
			if first>>4 != 4 || first&15 < 5 {
				refuses(t, x, api.ErrForm)
			} else if _, e := inner.Read(x); e != api.OK && (e != api.ErrProto || proto != api.Icmp) {
				t.Errorf("Read(% x): %d", x, e)
			}
		}
	}
}

func TestFragment(t *testing.T) { // P16.1, P16.2
	for _, proto := range protos() {
		b, _ := laid(proto)
		for n := range 1 << 16 {
			x := changed(b, 6, byte(n>>8), byte(n))
			_, e := inner.Read(x)
			if n%8192 == 0 && e != api.OK || n%8192 > 0 && e != api.ErrFragment {
				t.Errorf("Read(% x): %d", x, e)
			}
		}
		refuses(t, changed(b, 6, 0x20, 0x01), api.ErrFragment)
		refuses(t, changed(b, 6, 0x10, 0x00), api.ErrFragment)
	}
}

func TestProto(t *testing.T) { // P16.1, P16.2
	b, _ := laid(api.Tcp)
	for n := range 256 {
		switch x := changed(b, 9, byte(n)); n {
		case api.Tcp, api.Udp:
			said(t, x)
		default: // of Icmp the Type is 78
			refuses(t, x, api.ErrProto)
		}
	}
	b, _ = laid(api.Icmp)
	want, _ := ends(api.Icmp)
	for n := range 1 << 16 {
		x := changed(b, 20, byte(n>>8), byte(n))
		switch q, e := inner.Read(x); {
		case n == 0 || n == 0x0800:
			if e != api.OK || q != want {
				t.Errorf("Read(% x) = %v, %d", x, q, e)
			}
		case e != api.ErrProto || q != inner.Quote{}:
			t.Errorf("Read(% x) = %v, %d", x, q, e)
		}
	}
	refuses(t, changed(b, 20, 3, 1), api.ErrProto)
	refuses(t, changed(b, 20, 8, 1), api.ErrProto)
}

// Of two things that are wrong the one that the promise names first is told.
func TestErrorsInOrder(t *testing.T) { // P16.1, P16.2, R5
	b, _ := laid(api.Udp) // whose header has 28 bytes
	refuses(t, changed(b, 0, 0x57)[:19], api.ErrShort)
	refuses(t, changed(b, 0, 0x44)[:19], api.ErrShort)
	refuses(t, changed(b, 0, 0x57)[:27], api.ErrForm)
	refuses(t, changed(b, 0, 0x44)[:20], api.ErrForm)
	refuses(t, changed(b, 0, 0x50, 0, 0, 0, 0, 0, 1, 1, 0, 47), api.ErrForm)
	refuses(t, changed(b, 6, 0, 1)[:35], api.ErrShort)
	refuses(t, changed(b, 9, 47)[:35], api.ErrShort)
	refuses(t, changed(b, 6, 0, 1, 7, 47), api.ErrFragment)
	b, _ = laid(api.Icmp)
	refuses(t, changed(changed(b, 20, 3), 6, 0, 1), api.ErrFragment)
	// refuses asks Rewrite for other Protos, too: Read's error is told ahead of
	// ErrArg.
}

// quoteOf tells what the chapter's words say of any bytes, apart from the
// program.
func quoteOf(b []byte) (inner.Quote, api.Errno) {
	if len(b) < 20 {
		return inner.Quote{}, api.ErrShort
	}
	if b[0]>>4 != 4 || b[0]&15 < 5 {
		return inner.Quote{}, api.ErrForm
	}
	n := ahead(b)
	if len(b) < n+8 {
		return inner.Quote{}, api.ErrShort
	}
	if get(b, 6)%8192 != 0 {
		return inner.Quote{}, api.ErrFragment
	}
	q := inner.Quote{Tuple: api.Tuple{Proto: b[9], Src: long(b, 12), Dst: long(b, 16)}}
	switch {
	case b[9] == 6:
		q.Seq = long(b, n+4)
		fallthrough
	case b[9] == 17:
		q.Tuple.SPort, q.Tuple.DPort = get(b, n), get(b, n+2)
	case b[9] == 1 && (get(b, n) == 0 || get(b, n) == 0x800):
		q.Tuple.SPort = get(b, n+4)
	default:
		return inner.Quote{}, api.ErrProto
	}
	return q, api.OK
}

func TestAnyBytes(t *testing.T) { // P16.1, P16.2, R1
	c := chance(2)
	told := map[api.Errno]int{}
	for range 60000 {
		b := c.bytes(int(c.next() % 90))
		if len(b) > 9 && c.next()%8 > 0 {
			b[0] = 0x40 | byte(c.next()%13+3)
			set(b, 6, uint16(c.next()%8<<13|c.next()%5/4))
			b[9] = []byte{1, 6, 17, 47}[c.next()%4]
			for i := 20; i < len(b) && b[9] == 1; i++ {
				b[i] = byte(c.next()%2) * 8 * byte(c.next()%2)
			}
		}
		want, e := quoteOf(b)
		told[e]++
		if e != api.OK {
			refuses(t, b, e)
			continue
		}
		if said(t, b) != want {
			t.Errorf("Read(% x) = %v, want %v", b, said(t, b), want)
		}
		to, shift := c.tuple(b[9]), c.number()
		is(t, rewritten(t, b, to, shift), model(b, to, shift))
	}
	for _, e := range []api.Errno{api.OK, api.ErrShort, api.ErrForm, api.ErrFragment, api.ErrProto} {
		if told[e] < 500 {
			t.Errorf("the error %d was told %d times", e, told[e])
		}
	}
}

// Byte by byte as the chapter's words say it.
func TestRewriteWordByWord(t *testing.T) { // P16.2
	each(3, 9000, func(c *chance, p api.Packet, _, to inner.Quote) {
		b := put(t, p)
		switch c.next() % 4 {
		case 0:
			b = changed(b, behind(b), 0, 0)
		case 1:
			b = changed(b, behind(b), 0xff, 0xff)
		case 2:
			b = changed(b, 10, 0, 0)
		}
		b = inner.Of(b, 8+int(c.next()%40))
		is(t, rewritten(t, b, to.Tuple, to.Seq), model(b, to.Tuple, to.Seq))
	})
}

// What is the same in to stays the same.
func TestRewriteOneThing(t *testing.T) { // P16.2
	for _, proto := range protos() {
		b, _ := laid(proto)
		q, _ := ends(proto)
		for _, do := range []func(q *inner.Quote){
			func(q *inner.Quote) { q.Tuple.Src += 0x10001 },
			func(q *inner.Quote) { q.Tuple.Dst += 0x10001 },
			func(q *inner.Quote) { q.Tuple.SPort += 2 },
			func(q *inner.Quote) { q.Tuple.DPort += 2 },
			func(q *inner.Quote) { q.Seq += 3 },
		} {
			to := q
			do(&to)
			got := rewritten(t, b, to.Tuple, to.Seq-q.Seq)
			if proto == api.Icmp {
				to.Tuple.DPort = 0
			}
			if proto != api.Tcp {
				to.Seq = 0
			}
			if said(t, got) != to {
				t.Errorf("Rewrite(% x) says %v, want %v", got, said(t, got), to)
			}
			is(t, got, model(b, to.Tuple, to.Seq-q.Seq))
		}
	}
}

// Nothing is changed but the words of the addresses, the ports (the id), Seq, and
// both fields.
func TestAllElseStays(t *testing.T) { // P16.2
	each(4, 3000, func(c *chance, p api.Packet, _, to inner.Quote) {
		b := inner.Of(put(t, p), 8+int(c.next()%40))
		got := rewritten(t, b, to.Tuple, to.Seq)
		n := ahead(b)
		own := map[byte][]int{
			api.Tcp:  {n, n + 1, n + 2, n + 3, n + 4, n + 5, n + 6, n + 7, n + 16, n + 17},
			api.Udp:  {n, n + 1, n + 2, n + 3, n + 6, n + 7},
			api.Icmp: {n + 2, n + 3, n + 4, n + 5},
		}[b[9]]
		if len(got) != len(b) {
			t.Errorf("%d bytes became %d", len(b), len(got))
		}
		for i := range got {
			if got[i] != b[i] && (i < 10 || i > 19) && !slices.Contains(own, i) {
				t.Errorf("Rewrite(% x) = % x: byte %d", b, got, i)
			}
		}
	})
}

func TestAnotherProto(t *testing.T) { // P16.2
	for _, proto := range protos() {
		b, _ := laid(proto)
		for n := range 256 {
			to := api.Tuple{Proto: byte(n), Src: 1, Dst: 2, SPort: 3}
			out, e := inner.Rewrite(b, to, 4)
			if byte(n) == proto && e != api.OK || byte(n) != proto && (e != api.ErrArg || len(out) > 0) {
				t.Errorf("of %d to %d: % x, %d", proto, n, out, e)
			}
		}
	}
}

// Of an echo to's DPort is no part of what is changed, whatever it is; of Udp and
// of an echo the shift isn't.
func TestNotChanged(t *testing.T) { // P16.2
	a, b := laid(api.Icmp)
	_, to := ends(api.Icmp)
	for _, port := range []uint16{0, 1, 80, 65535} {
		to.Tuple.DPort = port
		is(t, rewritten(t, a, to.Tuple, uint32(port)), b)
	}
	a, b = laid(api.Udp)
	_, to = ends(api.Udp)
	for _, shift := range []uint32{0, 1, 0xffffffff} {
		is(t, rewritten(t, a, to.Tuple, shift), b)
	}
}

// The field of Tcp follows just where both its bytes are there.
func TestFieldThere(t *testing.T) { // P16.2, P16.4
	a, b := laid(api.Tcp)
	_, to := ends(api.Tcp)
	for many := 8; many < 17; many++ {
		is(t, rewritten(t, a[:20+many], to.Tuple, step)[:min(36, 20+many)], b[:min(36, 20+many)])
	}
	for many := 18; many < 26; many++ {
		is(t, rewritten(t, a[:20+many], to.Tuple, step), b[:20+many])
	}
	// What b has room for is not its.
	room := slices.Clone(a)
	out := rewritten(t, room[:36], to.Tuple, step)
	is(t, room, a)
	is(t, out, b[:36])
}

// plain is the quote of a datagram or an echo of noughts, of Tcp with 18 bytes,
// from and to noughts, with a field.
func plain(proto byte, field uint16) []byte {
	b := make([]byte, 40)
	b[0], b[9] = 0x45, proto
	set(b, behind(b), field)
	return b
}

// A field of Udp that is 0000 stays; else it is ffff for 0000, as that of Icmp
// is; that of Tcp and that of a header may be either.
func TestFieldsOfNoughts(t *testing.T) { // P16.2
	for _, proto := range protos() {
		for _, field := range []uint16{0, 1, 0x1234, 0xfffe, 0xffff} {
			for id := range 1 << 16 {
				to := api.Tuple{Proto: proto, SPort: uint16(id)}
				b := plain(proto, field)
				got := rewritten(t, b, to, 0)
				is(t, got, model(b, to, 0))
				now := get(got, behind(got))
				switch {
				case proto == api.Udp && field == 0 && now != 0,
					proto == api.Udp && field != 0 && now == 0,
					proto == api.Icmp && now == 0,
					proto == api.Tcp && field != 0 && int(field) == id && now != 0:
					t.Fatalf("Rewrite(% x, %v): the field is %x", b, to, now)
				}
			}
		}
	}
}

// A word that lets a field become 0000 may come ahead of others.
func TestThroughNought(t *testing.T) { // P16.2
	words := func(to api.Tuple) []uint16 {
		row := []uint16{to.SPort}
		if to.Proto != api.Icmp {
			row = []uint16{uint16(to.Src >> 16), uint16(to.Src), uint16(to.Dst >> 16), uint16(to.Dst), to.SPort, to.DPort}
		}
		return row
	}
	for _, proto := range protos() {
		for _, field := range []uint16{1, 0x1234, 0xfffe, 0xffff} {
			for _, to := range []api.Tuple{
				{Src: uint32(field) << 16}, {Src: uint32(field)}, {Dst: uint32(field) << 16}, {Dst: uint32(field)},
				{SPort: field}, {DPort: field},
				{Src: uint32(field) << 16, Dst: 5}, {Src: uint32(field), SPort: 9}, {Dst: uint32(field), DPort: 3},
				{SPort: field, DPort: 2}, {Dst: uint32(field) << 16, SPort: 1, DPort: 1},
			} {
				to.Proto = proto
				want := uint32(^field)
				for _, w := range words(to) {
					want += uint32(w)
				}
				got := rewritten(t, plain(proto, field), to, 0)
				now := get(got, behind(got))
				if now%0xffff != ^fold(want)%0xffff || proto != api.Tcp && now == 0 {
					t.Errorf("to %v from a field %x: %x", to, field, now)
				}
				is(t, got, model(plain(proto, field), to, 0))
			}
		}
	}
}

// The header's field and that of Tcp aren't turned, whatever becomes of them.
func TestFieldsAsSumSays(t *testing.T) { // P16.2
	b := plain(api.Tcp, 0x0001)
	set(b, 10, 0x0001)
	got := rewritten(t, b, api.Tuple{Proto: api.Tcp, Src: 1}, 0)
	if get(got, 10) != 0 || get(got, 36) != 0 {
		t.Errorf("fields %x, %x", get(got, 10), get(got, 36))
	}
	b = plain(api.Udp, 0x0001)
	set(b, 10, 0x0001)
	got = rewritten(t, b, api.Tuple{Proto: api.Udp, Src: 1}, 0)
	if get(got, 10) != 0 || get(got, 26) != 0xffff {
		t.Errorf("fields %x, %x", get(got, 10), get(got, 26))
	}
}

// The quote of a packet that is right becomes that of the one that says
// something else.
func TestAsIfSo(t *testing.T) { // P16.4
	each(5, 6000, func(c *chance, p api.Packet, q, to inner.Quote) {
		a, b := put(t, p), put(t, with(p, to))
		if c.next()%4 == 0 && q.Tuple.Proto == api.Udp {
			a, b = noField(a), noField(b)
		}
		many := 8 + int(c.next()%40)
		if c.next()%9 == 0 {
			many = -1
		}
		got := rewritten(t, inner.Of(a, many), to.Tuple, to.Seq-q.Seq)
		is(t, even(within(got)), even(within(inner.Of(b, many))))
	})
}

// A whole packet is a quote, too: rewritten it is one that is right.
func TestWhole(t *testing.T) { // P16.4
	each(6, 6000, func(c *chance, p api.Packet, q, to inner.Quote) {
		got := rewritten(t, put(t, p), to.Tuple, to.Seq-q.Seq)
		back, e := packet.Parse(got)
		if e != api.OK || !packet.Same(back, with(p, to)) {
			t.Errorf("Rewrite of %v is % x, %d", p, got, e)
		}
	})
}

func TestBack(t *testing.T) { // P16.5
	each(7, 9000, func(c *chance, p api.Packet, q, to inner.Quote) {
		b, shift := inner.Of(put(t, p), 8+int(c.next()%40)), c.number()
		if c.next()%3 == 0 { // no sum of it needs to be right
			b = changed(b, 10, c.bytes(2)...)
			if behind(b)+2 <= len(b) {
				b = changed(b, behind(b), c.bytes(2)...)
			}
		}
		went := rewritten(t, b, to.Tuple, shift)
		want := inner.Quote{Tuple: to.Tuple}
		if q.Tuple.Proto == api.Tcp {
			want.Seq = q.Seq + shift
		}
		if said(t, went) != want {
			t.Errorf("Rewrite(% x, %v, %d) says %v", b, to.Tuple, shift, said(t, went))
		}
		is(t, even(rewritten(t, went, q.Tuple, -shift)), even(b))
		is(t, even(rewritten(t, b, q.Tuple, 0)), even(b))
	})
}

func TestSeqGoesRound(t *testing.T) { // P16.2, P16.5
	b, _ := laid(api.Tcp)
	q, _ := ends(api.Tcp)
	for _, shift := range []uint32{0, 1, 0xf, 0x10, 0x11, 0xffff, 0x10000, 0x7fffffff, 0x80000000, 0xffffffff} {
		for _, seq := range []uint32{0, 1, 0xfffffff0, 0xffffffff, 0x80000000, 0x0000ffff, 0xffff0000} {
			p := put(t, with(api.Packet{Head: api.Head{Ttl: 9}}, inner.Quote{Tuple: q.Tuple, Seq: seq}))
			got := rewritten(t, p, q.Tuple, shift)
			if now := said(t, got); now.Seq != seq+shift {
				t.Errorf("%x and %x: %x", seq, shift, now.Seq)
			}
			if _, e := packet.Parse(got); e != api.OK {
				t.Errorf("Rewrite(% x, %x): %d", b, shift, e)
			}
		}
	}
}

func TestOf(t *testing.T) { // P16.3
	c := chance(8)
	for _, n := range []int{20, 24, 27, 28, 60, 61, 100, 1500} {
		b := c.bytes(n)
		for half := range 16 {
			b[0] = 0x40 | byte(half)
			for many := range 120 {
				is(t, inner.Of(b, many), b[:min(n, half*4+many)])
			}
			for _, many := range []int{n - half*4, n - half*4 + 1, n, 1 << 20, math.MaxInt32, math.MaxInt - 59, math.MaxInt} {
				if many >= n-half*4 {
					is(t, inner.Of(b, many), b)
				}
			}
			for _, many := range []int{-1, -2, -20, math.MinInt32, math.MinInt} {
				is(t, inner.Of(b, many), b)
			}
		}
		b[0] = 0x97 // what is no packet has an answer, too
		is(t, inner.Of(b, 8), b[:min(n, 36)])
	}
	for n := range 20 {
		for _, many := range []int{-1, 0, 8, math.MaxInt, math.MinInt} {
			for _, first := range []byte{0x40, 0x45, 0} {
				if got := inner.Of(append([]byte{first}, c.bytes(n)...)[:n], many); len(got) > 0 {
					t.Errorf("of %d bytes: % x", n, got)
				}
			}
		}
	}
	if got := inner.Of(nil, -1); len(got) > 0 {
		t.Errorf("of none: % x", got)
	}
}

func TestNewMemory(t *testing.T) { // P16.2, P16.3, R3
	for _, proto := range protos() {
		a, b := laid(proto)
		_, to := ends(proto)
		x := append(make([]byte, 0, 200), a...)
		for _, do := range []func() []byte{
			func() []byte { return rewritten(t, x, to.Tuple, step) },
			func() []byte { return rewritten(t, x, said(t, x).Tuple, 0) },
			func() []byte { return inner.Of(x, 8) },
			func() []byte { return inner.Of(x, 99) },
			func() []byte { return inner.Of(x, -1) },
		} {
			one, two := do(), do()
			is(t, x, a) // what is handed in is only read
			kept := slices.Clone(two)
			clear(one[:cap(one)])
			is(t, x, a)
			is(t, two, kept)
			is(t, do(), kept)
		}
		one, two := rewritten(t, x, to.Tuple, step), inner.Of(x, -1)
		clear(x[:cap(x)])
		is(t, one, b)
		is(t, two, a)
	}
}

// Whatever goroutines ask at the same time, all of them are answered the same.
func TestAtTheSameTime(t *testing.T) { // R7
	for _, proto := range protos() {
		a, b := laid(proto)
		_, to := ends(proto)
		answers := make(chan [2][]byte)
		for range 8 {
			go func() {
				x, _ := inner.Rewrite(a, to.Tuple, step)
				answers <- [2][]byte{x, inner.Of(a, 8)}
			}()
		}
		for range 8 {
			got := <-answers
			is(t, got[0], b)
			is(t, got[1], a[:ahead(a)+8])
		}
	}
}
