package tuple_test

import (
	"bytes"
	"slices"
	"testing"

	"culvert/api"
	"culvert/icmp"
	"culvert/packet"
	"culvert/tuple"
)

// Addresses between which most packets of these tests go.
const (
	src = 0x0a010203
	dst = 0xcb007109
)

// protos are all that have tuples.
func protos() []byte {
	return []byte{api.Tcp, api.Udp, api.Icmp}
}

// chance makes numbers that look like chance, always the same ones.
type chance uint64

func (c *chance) next() uint64 {
	*c = *c*6364136223846793005 + 1442695040888963407
	return uint64(*c) >> 32
}

func (c *chance) bytes(n int) []byte {
	out := make([]byte, n)
	for i := range out {
		out[i] = byte(c.next())
	}
	return out
}

// tuple makes any tuple.
func (c *chance) tuple() api.Tuple {
	return api.Tuple{
		Proto: byte(c.next()), Src: uint32(c.next()), Dst: uint32(c.next()),
		SPort: uint16(c.next()), DPort: uint16(c.next()),
	}
}

// near makes a tuple of few values, so that many of its fields are another's.
func (c *chance) near() api.Tuple {
	row := []uint32{0, 1, 255, 256, 1<<16 - 1, 1 << 16, 1<<31 - 1, 1 << 31, 1<<32 - 1}
	one := func() uint32 { return row[c.next()%uint64(len(row))] }
	return api.Tuple{
		Proto: byte(one()), Src: one(), Dst: one(), SPort: uint16(one()), DPort: uint16(one()),
	}
}

// packet makes a packet that may be.
func (c *chance) packet(proto byte) api.Packet {
	p := api.Packet{Head: api.Head{
		Tos: byte(c.next()), Id: uint16(c.next()), Df: c.next()%2 == 0,
		Ttl: byte(c.next()%255) + 1, Proto: proto,
		Src: uint32(c.next()), Dst: uint32(c.next()),
		Opts: c.bytes(int(c.next()%11) * 4),
	}}
	data := c.bytes(int(c.next() % 40))
	switch proto {
	case api.Tcp:
		p.Segment = api.Segment{
			SPort: uint16(c.next()), DPort: uint16(c.next()), Seq: uint32(c.next()), Ack: uint32(c.next()),
			Flags: byte(c.next()), Win: uint16(c.next()), Urg: uint16(c.next()), Data: data,
		}
	case api.Udp:
		p.Datagram = api.Datagram{SPort: uint16(c.next()), DPort: uint16(c.next()), Data: data}
	case api.Icmp:
		p.Message = api.Message{Type: byte(c.next() % 14), Code: byte(c.next() % 2), Rest: uint32(c.next()), Data: data}
	}
	return p
}

// full is a packet of which every part has other ports, though only that of its
// Proto counts.
func full(proto byte) api.Packet {
	return api.Packet{
		Head: api.Head{
			Tos: 9, Id: 8, Df: true, Ttl: 7, Proto: proto, Src: src, Dst: dst, Opts: []byte{1, 1, 1, 0},
		},
		Segment: api.Segment{
			SPort: 4000, DPort: 443, Seq: 5, Ack: 6, Flags: api.Ack, Win: 10, Urg: 11,
			Opts: []api.Opt{{Kind: 9, Data: []byte{1}}}, Data: []byte("data"),
		},
		Datagram: api.Datagram{SPort: 5000, DPort: 53, Data: []byte("ask")},
		Message:  api.Message{Type: 8, Rest: 7<<16 | 300, Data: []byte("ping")},
	}
}

// has holds Of's answer against want.
func has(t *testing.T, p api.Packet, want api.Tuple) {
	t.Helper()
	if got, is := tuple.Of(p); !is || got != want {
		t.Errorf("Of(%v) = %v, %v; want %v, true", p, got, is, want)
	}
}

// hasNone holds Of's answer against none.
func hasNone(t *testing.T, p api.Packet) {
	t.Helper()
	if got, is := tuple.Of(p); is || got != (api.Tuple{}) {
		t.Errorf("Of(%v) = %v, %v; want none", p, got, is)
	}
}

// laid are tuples, and their bytes, as they were worked out apart from the
// program.
func laid() map[api.Tuple]string {
	return map[api.Tuple]string{
		{Proto: 6, Src: src, Dst: dst, SPort: 4000, DPort: 443}: "\x06\x0a\x01\x02\x03\xcb\x00\x71\x09\x0f\xa0\x01\xbb",

		{Proto: 1, Src: 0x01020304, Dst: 0x05060708, SPort: 0x090a}: "\x01\x01\x02\x03\x04\x05\x06\x07\x08\x09\x0a\x00\x00",

		{Proto: 255, Src: 1, Dst: 1 << 24, SPort: 2, DPort: 0xff00}: "\xff\x00\x00\x00\x01\x01\x00\x00\x00\x00\x02\xff\x00",

		{}: "\x00\x00\x00\x00\x00\x00\x00\x00\x00\x00\x00\x00\x00",

		{Proto: 255, Src: 1<<32 - 1, Dst: 1<<32 - 1, SPort: 1<<16 - 1, DPort: 1<<16 - 1}: "\xff\xff\xff\xff\xff\xff\xff\xff\xff\xff\xff\xff\xff",
	}
}

func TestOfByProto(t *testing.T) { // P10.1
	has(t, full(api.Tcp), api.Tuple{Proto: api.Tcp, Src: src, Dst: dst, SPort: 4000, DPort: 443})
	has(t, full(api.Udp), api.Tuple{Proto: api.Udp, Src: src, Dst: dst, SPort: 5000, DPort: 53})
	has(t, full(api.Icmp), api.Tuple{Proto: api.Icmp, Src: src, Dst: dst, SPort: 7})
	for n := range 256 {
		if proto := byte(n); !slices.Contains(protos(), proto) {
			hasNone(t, full(proto))
		}
	}
	hasNone(t, api.Packet{})
}

// A tuple is there, whatever its numbers are, and whether or not the packet may
// be.
func TestOfEdges(t *testing.T) { // P10.1, R1
	for _, proto := range protos() {
		p := api.Packet{Head: api.Head{Proto: proto}}
		has(t, p, api.Tuple{Proto: proto})
		p.Head.Src, p.Head.Dst = 1<<32-1, 1<<32-1
		p.Segment.SPort, p.Segment.DPort = 1<<16-1, 1<<16-1
		p.Datagram.SPort, p.Datagram.DPort = 1<<16-1, 1<<16-1
		p.Message.Rest = 1<<32 - 1
		want := api.Tuple{Proto: proto, Src: 1<<32 - 1, Dst: 1<<32 - 1, SPort: 1<<16 - 1, DPort: 1<<16 - 1}
		if proto == api.Icmp {
			want.DPort = 0
		}
		has(t, p, want)
		long := make([]byte, api.MaxPacket+1)
		p.Head.Opts, p.Segment.Data, p.Datagram.Data, p.Message.Data = long, long, long, long
		has(t, p, want)
	}
}

func TestOfMessages(t *testing.T) { // P10.1
	for n := range 1 << 16 {
		p := full(api.Icmp)
		p.Message.Type, p.Message.Code = byte(n>>8), byte(n)
		if n == 8<<8 || n == 0 { // an echo that is asked, that is told
			has(t, p, api.Tuple{Proto: api.Icmp, Src: src, Dst: dst, SPort: 7})
		} else {
			hasNone(t, p)
		}
	}
}

// An echo's number is no part of its tuple, all of its id is.
func TestOfEchoes(t *testing.T) { // P10.1
	for _, id := range []uint16{0, 1, 255, 256, 7, 1 << 15, 1<<16 - 1} {
		for _, number := range []uint16{0, 1, 256, 1<<16 - 1} {
			p := full(api.Icmp)
			p.Message.Rest = uint32(id)<<16 | uint32(number)
			has(t, p, api.Tuple{Proto: api.Icmp, Src: src, Dst: dst, SPort: id})
		}
	}
}

// told reads a tuple out of a packet's bytes, where its fields stand.
func told(b []byte) (api.Tuple, bool) {
	number := func(b []byte) (n uint32) {
		for _, x := range b {
			n = n<<8 | uint32(x)
		}
		return n
	}
	body := b[int(b[0]&15)*4:]
	u := api.Tuple{Proto: b[9], Src: number(b[12:16]), Dst: number(b[16:20])}
	if u.Proto != 1 {
		u.SPort, u.DPort = uint16(number(body[:2])), uint16(number(body[2:4]))
		return u, true
	}
	if (body[0] != 0 && body[0] != 8) || body[1] != 0 {
		return api.Tuple{}, false
	}
	u.SPort = uint16(number(body[4:6]))
	return u, true
}

func TestOfBytes(t *testing.T) { // P10.1
	c := chance(1)
	for n := range 6000 {
		p := c.packet(protos()[n%3])
		b, e := packet.Put(p)
		if e != api.OK {
			t.Fatalf("Put(%v): %d", p, e)
		}
		if want, is := told(b); is {
			has(t, p, want)
		} else {
			hasNone(t, p)
		}
	}
}

func TestOfStays(t *testing.T) { // R3
	for _, proto := range protos() {
		p := full(proto)
		tuple.Of(p)
		if !packet.Same(p, full(proto)) {
			t.Errorf("Of of proto %d changed what it was given: %v", proto, p)
		}
	}
}

func TestReverse(t *testing.T) { // P10.1
	for n := range 256 {
		u := api.Tuple{Proto: byte(n), Src: src, Dst: dst, SPort: 4000, DPort: 443}
		want := api.Tuple{Proto: byte(n), Src: dst, Dst: src, SPort: 443, DPort: 4000}
		if u.Proto == api.Icmp {
			want.SPort, want.DPort = 4000, 443
		}
		if got := tuple.Reverse(u); got != want {
			t.Errorf("Reverse(%v) = %v, want %v", u, got, want)
		}
	}
}

func TestReverseEdges(t *testing.T) { // P10.1
	for u, want := range map[api.Tuple]api.Tuple{
		{}:                           {},
		{Src: 1}:                     {Dst: 1},
		{Dst: 1<<32 - 1}:             {Src: 1<<32 - 1},
		{SPort: 1}:                   {DPort: 1},
		{DPort: 1<<16 - 1}:           {SPort: 1<<16 - 1},
		{Proto: api.Icmp, SPort: 1}:  {Proto: api.Icmp, SPort: 1},
		{Proto: api.Icmp, DPort: 1}:  {Proto: api.Icmp, DPort: 1},
		{Proto: api.Icmp, Src: 1}:    {Proto: api.Icmp, Dst: 1},
		{Src: 5, Dst: 5, SPort: 6}:   {Src: 5, Dst: 5, DPort: 6},
		{Proto: api.Tcp, SPort: 9}:   {Proto: api.Tcp, DPort: 9},
		{Proto: api.Udp, DPort: 256}: {Proto: api.Udp, SPort: 256},
	} {
		if got := tuple.Reverse(u); got != want {
			t.Errorf("Reverse(%v) = %v, want %v", u, got, want)
		}
	}
}

func TestNone(t *testing.T) { // P10.1
	if !tuple.None(api.Tuple{}) {
		t.Error("None of noughts is false")
	}
	for bit := range 32 {
		for _, u := range []api.Tuple{
			{Proto: 1 << (bit % 8)}, {Src: 1 << bit}, {Dst: 1 << bit},
			{SPort: 1 << (bit % 16)}, {DPort: 1 << (bit % 16)},
		} {
			if tuple.None(u) {
				t.Errorf("None(%v) is true", u)
			}
		}
	}
}

// inOrder are tuples, each ahead of all behind it: what stands earlier in the
// order counts for more, whatever is behind it.
func inOrder() []api.Tuple {
	const port, addr = 1<<16 - 1, 1<<32 - 1
	return []api.Tuple{
		{},
		{DPort: 1},
		{DPort: 255},
		{DPort: 256},
		{DPort: 1<<15 - 1},
		{DPort: 1 << 15},
		{DPort: port},
		{SPort: 1},
		{SPort: 1, DPort: port},
		{SPort: 256},
		{SPort: port, DPort: port},
		{Dst: 1},
		{Dst: 1, SPort: port, DPort: port},
		{Dst: 1<<31 - 1},
		{Dst: 1 << 31},
		{Dst: addr, SPort: port, DPort: port},
		{Src: 1},
		{Src: 1, Dst: addr},
		{Src: 256},
		{Src: 1<<31 - 1},
		{Src: 1 << 31},
		{Src: addr, Dst: addr, SPort: port, DPort: port},
		{Proto: 1},
		{Proto: 1, Src: addr, Dst: addr, SPort: port, DPort: port},
		{Proto: 6},
		{Proto: 17, DPort: 1},
		{Proto: 127},
		{Proto: 128},
		{Proto: 255},
		{Proto: 255, Src: addr, Dst: addr, SPort: port, DPort: port},
	}
}

func TestCompare(t *testing.T) { // P10.2
	row := inOrder()
	for i, a := range row {
		for k, b := range row {
			want := 0
			if i < k {
				want = -1
			} else if i > k {
				want = 1
			}
			if got := tuple.Compare(a, b); got != want {
				t.Errorf("Compare(%v, %v) = %d, want %d", a, b, got, want)
			}
		}
	}
}

// The ports of Icmp count as those of all others do.
func TestCompareByOneField(t *testing.T) { // P10.2
	for n := range 256 {
		base := api.Tuple{Proto: byte(n), Src: 9, Dst: 9, SPort: 9, DPort: 9}
		for _, change := range []func(u *api.Tuple){
			func(u *api.Tuple) { u.Src++ },
			func(u *api.Tuple) { u.Dst++ },
			func(u *api.Tuple) { u.SPort++ },
			func(u *api.Tuple) { u.DPort++ },
		} {
			more := base
			change(&more)
			there, back := tuple.Compare(base, more), tuple.Compare(more, base)
			if there != -1 || back != 1 || tuple.Compare(more, more) != 0 {
				t.Errorf("Compare of %v and %v: %d, %d", base, more, there, back)
			}
		}
	}
}

func TestBytes(t *testing.T) { // P10.2
	for u, want := range laid() {
		if got := tuple.Bytes(u); string(got) != want {
			t.Errorf("Bytes(%v) = % x, want % x", u, got, want)
		}
	}
}

// unlaid reads the tuple of 13 bytes.
func unlaid(b [13]byte) (u api.Tuple) {
	u.Proto = b[0]
	for i := range 4 {
		u.Src |= uint32(b[1+i]) << (24 - 8*i)
		u.Dst |= uint32(b[5+i]) << (24 - 8*i)
	}
	for i := range 2 {
		u.SPort |= uint16(b[9+i]) << (8 - 8*i)
		u.DPort |= uint16(b[11+i]) << (8 - 8*i)
	}
	return u
}

func TestBytesBack(t *testing.T) { // P10.2
	c := chance(2)
	for range 2000 {
		u := c.tuple()
		b := tuple.Bytes(u)
		if len(b) != 13 || unlaid([13]byte(b)) != u {
			t.Fatalf("Bytes(%v) = % x", u, b)
		}
	}
}

func TestBytesAreNew(t *testing.T) { // R3
	for u, want := range laid() {
		a, b := tuple.Bytes(u), tuple.Bytes(u)
		clear(a)
		_ = append(a, 1)
		if string(b) != want || string(tuple.Bytes(u)) != want {
			t.Errorf("Bytes(%v) shares its memory", u)
		}
	}
}

func TestReverseTwice(t *testing.T) { // P10.3
	c := chance(3)
	for n := range 3000 {
		u := c.tuple()
		if n%2 == 0 {
			u.Proto = protos()[n/2%3]
		}
		if got := tuple.Reverse(tuple.Reverse(u)); got != u {
			t.Fatalf("Reverse twice of %v is %v", u, got)
		}
	}
}

// answer makes the packet that answers p: what p's end that hears it would say.
func (c *chance) answer(p api.Packet) api.Packet {
	r := c.packet(p.Head.Proto)
	r.Head.Src, r.Head.Dst = p.Head.Dst, p.Head.Src
	switch p.Head.Proto {
	case api.Tcp:
		r.Segment.SPort, r.Segment.DPort = p.Segment.DPort, p.Segment.SPort
	case api.Udp:
		r.Datagram.SPort, r.Datagram.DPort = p.Datagram.DPort, p.Datagram.SPort
	case api.Icmp:
		r.Message = p.Message
		r.Message.Type = 0
	}
	return r
}

func TestAnswers(t *testing.T) { // P10.3
	c := chance(4)
	for n := range 3000 {
		p := c.packet(protos()[n%3])
		if p.Head.Proto == api.Icmp {
			p.Message.Type, p.Message.Code = 8, 0
		}
		asked, is := tuple.Of(p)
		if !is {
			t.Fatalf("%v has no tuple", p)
		}
		has(t, c.answer(p), tuple.Reverse(asked))
	}
}

// An echo that is told of another id is no answer.
func TestAnswersOfAnotherId(t *testing.T) { // P10.3
	p := full(api.Icmp)
	asked, _ := tuple.Of(p)
	p.Head.Src, p.Head.Dst = dst, src
	p.Message.Type = 0
	p.Message = icmp.WithId(p.Message, 8)
	if told, is := tuple.Of(p); !is || told == tuple.Reverse(asked) {
		t.Errorf("of another id: %v, %v", told, is)
	}
}

func TestOrderIsThatOfBytes(t *testing.T) { // P10.4
	c := chance(5)
	for n := range 20000 {
		a, b := c.tuple(), c.tuple()
		if n%4 != 0 {
			a, b = c.near(), c.near()
		}
		if n%4 == 1 {
			b.Proto, b.Src, b.Dst = a.Proto, a.Src, a.Dst
		}
		got, want := tuple.Compare(a, b), bytes.Compare(tuple.Bytes(a), tuple.Bytes(b))
		if got != want || (got == 0) != (a == b) {
			t.Fatalf("Compare(%v, %v) = %d, of their bytes %d", a, b, got, want)
		}
	}
}

func TestOrderIsTotal(t *testing.T) { // P10.4
	c := chance(6)
	row := inOrder()
	for range 60 {
		row = append(row, c.near(), c.tuple())
	}
	for _, a := range row {
		if tuple.Compare(a, a) != 0 {
			t.Fatalf("Compare(%v) with itself is not 0", a)
		}
		for _, b := range row {
			if tuple.Compare(a, b) != -tuple.Compare(b, a) {
				t.Fatalf("Compare of %v and %v is not the same from both sides", a, b)
			}
			for _, d := range row {
				if tuple.Compare(a, b) <= 0 && tuple.Compare(b, d) <= 0 && tuple.Compare(a, d) > 0 {
					t.Fatalf("%v, %v, %v are in no order", a, b, d)
				}
			}
		}
	}
}

// Whatever goroutines ask at the same time, all of them are answered the same.
func TestAtTheSameTime(t *testing.T) { // R7
	p := full(api.Tcp)
	answers := make(chan string)
	for range 8 {
		go func() {
			u, _ := tuple.Of(p)
			answers <- string(tuple.Bytes(tuple.Reverse(u)))
		}()
	}
	for range 8 {
		if got := <-answers; got != "\x06\xcb\x00\x71\x09\x0a\x01\x02\x03\x01\xbb\x0f\xa0" {
			t.Errorf("% x", got)
		}
	}
}

func TestExamples(t *testing.T) {
	const one, two = 0x0a000001, 0x0a000002 // 10.0.0.1, 10.0.0.2
	tcp := api.Tuple{Proto: api.Tcp, Src: one, Dst: two, SPort: 5, DPort: 80}
	has(t, packet.Tcp(one, two, api.Segment{SPort: 5, DPort: 80}), tcp)
	if got := tuple.Reverse(tcp); got != (api.Tuple{Proto: api.Tcp, Src: two, Dst: one, SPort: 80, DPort: 5}) {
		t.Errorf("Reverse of Tcp: %v", got)
	}
	echo := api.Tuple{Proto: api.Icmp, Src: 1, Dst: 2, SPort: 7}
	if got := tuple.Reverse(echo); got != (api.Tuple{Proto: api.Icmp, Src: 2, Dst: 1, SPort: 7}) {
		t.Errorf("Reverse of Icmp: %v", got)
	}
	hasNone(t, packet.Icmp(one, two, api.Message{Type: 3}))
	hasNone(t, api.Packet{Head: api.Head{Proto: 47, Src: one, Dst: two}})
}
