package packet_test

import (
	"bytes"
	"fmt"
	"slices"
	"testing"

	"culvert/api"
	"culvert/icmp"
	"culvert/ipv4"
	"culvert/packet"
	"culvert/tcp"
	"culvert/udp"
)

// Addresses between which most packets of these tests go.
const (
	src = 0x0a010203
	dst = 0xcb007109
)

// protos are all there are.
func protos() []byte {
	return []byte{api.Tcp, api.Udp, api.Icmp}
}

// chance makes bytes that look like chance, always the same ones.
type chance uint64

func (c *chance) next() uint64 {
	*c = *c*6364136223846793005 + 1442695040888963407
	return uint64(*c) >> 32
}

func (c *chance) bytes(n int) []byte {
	out := make([]byte, n)
	for i := range out {
		out[i] = byte(c.next())
	}
	return out
}

// head makes a head that may be.
func (c *chance) head(proto byte) api.Head {
	return api.Head{
		Tos: byte(c.next()), Id: uint16(c.next()), Df: c.next()%2 == 0,
		Ttl: byte(c.next()%255) + 1, Proto: proto,
		Src: uint32(c.next()), Dst: uint32(c.next()),
		Opts: c.bytes(int(c.next()%11) * 4),
	}
}

// options makes options that may be, of at most 40 bytes.
func (c *chance) options() []api.Opt {
	var l []api.Opt
	for left := int(c.next() % 41); left >= 2; {
		n := int(c.next() % uint64(left-1))
		l = append(l, api.Opt{Kind: byte(2 + c.next()%254), Data: c.bytes(n)})
		left -= 2 + n
	}
	return l
}

// packet makes a packet that may be, with n bytes of Data, at most 1380.
func (c *chance) packet(proto byte, n int) api.Packet {
	p := api.Packet{Head: c.head(proto)}
	switch proto {
	case api.Tcp:
		p.Segment = api.Segment{
			SPort: uint16(c.next()), DPort: uint16(c.next()), Seq: uint32(c.next()), Ack: uint32(c.next()),
			Flags: byte(c.next()), Win: uint16(c.next()), Urg: uint16(c.next()),
			Opts: c.options(), Data: c.bytes(n),
		}
	case api.Udp:
		p.Datagram = api.Datagram{SPort: uint16(c.next()), DPort: uint16(c.next()), Data: c.bytes(n)}
	case api.Icmp:
		p.Message = api.Message{Type: byte(c.next()), Code: byte(c.next()), Rest: uint32(c.next()), Data: c.bytes(n)}
	}
	return p
}

// opt is an option of a kind and a text as its Data.
func opt(kind byte, data string) api.Opt {
	return api.Opt{Kind: kind, Data: []byte(data)}
}

// segment is a segment of which nothing is 0.
func segment() api.Segment {
	return api.Segment{
		SPort: 0x1234, DPort: 0x5678, Seq: 0x9abcdef0, Ack: 0x13579bdf, Flags: 0xff, Win: 0x2468, Urg: 0xace1,
		Opts: []api.Opt{opt(2, "\x05\xb4"), opt(4, "")}, Data: []byte("hello"),
	}
}

// datagram is a datagram of which nothing is 0.
func datagram() api.Datagram {
	return api.Datagram{SPort: 0x1234, DPort: 0x5678, Data: []byte("who?!")}
}

// message is a message of which nothing is 0.
func message() api.Message {
	return api.Message{Type: 3, Code: 4, Rest: 0x12345678, Data: []byte("ping!")}
}

// bare is a packet of a head of which nothing is 0, and of no part.
func bare(proto byte) api.Packet {
	return api.Packet{Head: api.Head{
		Tos: 0xb8, Id: 0x1234, Df: true, Ttl: 63, Proto: proto, Src: src, Dst: dst,
		Opts: []byte{7, 7, 4, 0, 1, 2, 3, 4},
	}}
}

// full is bare with its Proto's part, of which nothing is 0.
func full(proto byte) api.Packet {
	p := bare(proto)
	switch proto {
	case api.Tcp:
		p.Segment = segment()
	case api.Udp:
		p.Datagram = datagram()
	case api.Icmp:
		p.Message = message()
	}
	return p
}

// laid is the bytes of full, as they were worked out apart from the program.
func laid(proto byte) []byte {
	ahead := "\x47\xb8\x00\x29\x12\x34\x40\x00\x3f"
	behind := "\x0a\x01\x02\x03\xcb\x00\x71\x09\x07\x07\x04\x00\x01\x02\x03\x04"
	switch proto {
	case api.Tcp:
		return []byte("\x47\xb8\x00\x3d\x12\x34\x40\x00\x3f\x06\xcf\xb4" + behind +
			"\x12\x34\x56\x78\x9a\xbc\xde\xf0\x13\x57\x9b\xdf\x70\xff\x24\x68\x94\x64\xac\xe1" +
			"\x02\x04\x05\xb4\x04\x02\x00\x00hello")
	case api.Udp:
		return []byte(ahead + "\x11\xcf\xbd" + behind + "\x12\x34\x56\x78\x00\x0d\x47\x72who?!")
	}
	return []byte(ahead + "\x01\xcf\xcd" + behind + "\x03\x04\x94\x7e\x12\x34\x56\x78ping!")
}

// cloned is a copy of p that has no memory in common with it.
func cloned(p api.Packet) api.Packet {
	p.Head.Opts = bytes.Clone(p.Head.Opts)
	p.Segment.Opts = slices.Clone(p.Segment.Opts)
	for i := range p.Segment.Opts {
		p.Segment.Opts[i].Data = bytes.Clone(p.Segment.Opts[i].Data)
	}
	p.Segment.Data = bytes.Clone(p.Segment.Data)
	p.Datagram.Data = bytes.Clone(p.Datagram.Data)
	p.Message.Data = bytes.Clone(p.Message.Data)
	return p
}

// clearAll makes all bytes that p has in its lists 0, and its options none.
func clearAll(p api.Packet) {
	for _, o := range p.Segment.Opts {
		clear(o.Data[:cap(o.Data)])
	}
	clear(p.Segment.Opts[:cap(p.Segment.Opts)])
	for _, b := range [][]byte{p.Head.Opts, p.Segment.Data, p.Datagram.Data, p.Message.Data} {
		clear(b[:cap(b)])
	}
}

// same holds packets against each other in another way than the program's: as
// texts, of which those of nil and of empty lists are the same.
func same(a, b api.Packet) bool {
	return fmt.Sprint(a) == fmt.Sprint(b)
}

// righted lays the field of b's header, which has 20 bytes at least.
func righted(b []byte) []byte {
	b[10], b[11] = 0, 0
	var all uint32
	for i := 0; i < int(b[0]&15)*4 && i+1 < len(b); i += 2 {
		all += uint32(b[i])<<8 | uint32(b[i+1])
	}
	for all > 0xffff {
		all = all&0xffff + all>>16
	}
	b[10], b[11] = ^byte(all>>8), ^byte(all)
	return b
}

// changed is laid with a change, behind which the header's field is right.
func changed(proto byte, change func(b []byte)) []byte {
	b := laid(proto)
	change(b)
	return righted(b)
}

// of is the bytes of a packet of a head and a payload that need not be its
// Proto's.
func of(t *testing.T, h api.Head, payload []byte) []byte {
	t.Helper()
	b, e := ipv4.Put(h, payload)
	if e != api.OK {
		t.Fatalf("ipv4.Put(%+v, %d bytes) = %d", h, len(payload), e)
	}
	return b
}

// may holds May's answer against want.
func may(t *testing.T, name string, p api.Packet, want bool) {
	t.Helper()
	before := cloned(p)
	if got := packet.May(p); got != want {
		t.Errorf("%s: May(%+v) = %v", name, p, got)
	}
	if !same(p, before) {
		t.Errorf("%s: %+v became %+v", name, before, p)
	}
}

// put tells Put's bytes, which must be there.
func put(t *testing.T, p api.Packet) []byte {
	t.Helper()
	before := cloned(p)
	b, e := packet.Put(p)
	if e != api.OK {
		t.Fatalf("Put(%+v) = %d", p, e)
	}
	if !same(p, before) {
		t.Errorf("%+v became %+v", before, p)
	}
	return b
}

// putRefused holds Put's error against want, beside which nothing is told.
func putRefused(t *testing.T, name string, p api.Packet, want api.Errno) {
	t.Helper()
	before := cloned(p)
	if b, e := packet.Put(p); e != want || len(b) != 0 {
		t.Errorf("%s: Put(%+v) = %d bytes, %d, want %d", name, p, len(b), e, want)
	}
	if !same(p, before) {
		t.Errorf("%s: %+v became %+v", name, before, p)
	}
}

// accept holds Parse's answer against p.
func accept(t *testing.T, name string, b []byte, p api.Packet) {
	t.Helper()
	before := bytes.Clone(b)
	got, e := packet.Parse(b)
	if e != api.OK || !same(got, p) {
		t.Errorf("%s: Parse(% x) = %+v, %d, want %+v", name, b, got, e, p)
	}
	if !bytes.Equal(b, before) {
		t.Errorf("%s: % x became % x", name, before, b)
	}
}

// refuse holds Parse's error against want, beside which nothing is told.
func refuse(t *testing.T, name string, b []byte, want api.Errno) {
	t.Helper()
	before := bytes.Clone(b)
	p, e := packet.Parse(b)
	if e != want || !same(p, api.Packet{}) {
		t.Errorf("%s: Parse(% x) = %+v, %d, want %d", name, b, p, e, want)
	}
	if !bytes.Equal(b, before) {
		t.Errorf("%s: % x became % x", name, before, b)
	}
}

// change is a change to one field, and the Proto whose part has it.
type change struct {
	proto byte
	name  string
	do    func(p *api.Packet)
}

// partChanges are changes by which no part, and no full part, stays the same.
func partChanges() []change {
	return []change{
		{api.Tcp, "SPort", func(p *api.Packet) { p.Segment.SPort++ }},
		{api.Tcp, "SPort, high", func(p *api.Packet) { p.Segment.SPort ^= 1 << 15 }},
		{api.Tcp, "DPort", func(p *api.Packet) { p.Segment.DPort++ }},
		{api.Tcp, "Seq", func(p *api.Packet) { p.Segment.Seq++ }},
		{api.Tcp, "Seq, high", func(p *api.Packet) { p.Segment.Seq ^= 1 << 31 }},
		{api.Tcp, "Ack", func(p *api.Packet) { p.Segment.Ack++ }},
		{api.Tcp, "Flags", func(p *api.Packet) { p.Segment.Flags ^= api.Syn }},
		{api.Tcp, "Win", func(p *api.Packet) { p.Segment.Win++ }},
		{api.Tcp, "Urg", func(p *api.Packet) { p.Segment.Urg++ }},
		{api.Tcp, "an option", func(p *api.Packet) { p.Segment.Opts = append(p.Segment.Opts, opt(8, "x")) }},
		{api.Tcp, "an option of nothing", func(p *api.Packet) { p.Segment.Opts = append(p.Segment.Opts, api.Opt{}) }},
		{api.Tcp, "Data", func(p *api.Packet) { p.Segment.Data = append(p.Segment.Data, 'x') }},
		{api.Tcp, "Data of 00", func(p *api.Packet) { p.Segment.Data = append(p.Segment.Data, 0) }},
		{api.Udp, "SPort", func(p *api.Packet) { p.Datagram.SPort++ }},
		{api.Udp, "SPort, high", func(p *api.Packet) { p.Datagram.SPort ^= 1 << 15 }},
		{api.Udp, "DPort", func(p *api.Packet) { p.Datagram.DPort++ }},
		{api.Udp, "Data", func(p *api.Packet) { p.Datagram.Data = append(p.Datagram.Data, 'x') }},
		{api.Udp, "Data of 00", func(p *api.Packet) { p.Datagram.Data = append(p.Datagram.Data, 0) }},
		{api.Icmp, "Type", func(p *api.Packet) { p.Message.Type++ }},
		{api.Icmp, "Code", func(p *api.Packet) { p.Message.Code++ }},
		{api.Icmp, "Rest", func(p *api.Packet) { p.Message.Rest++ }},
		{api.Icmp, "Rest, high", func(p *api.Packet) { p.Message.Rest ^= 1 << 31 }},
		{api.Icmp, "Data", func(p *api.Packet) { p.Message.Data = append(p.Message.Data, 'x') }},
		{api.Icmp, "Data of 00", func(p *api.Packet) { p.Message.Data = append(p.Message.Data, 0) }},
	}
}

// headChanges are changes by which no head stays the same.
func headChanges() []change {
	return []change{
		{0, "Tos", func(p *api.Packet) { p.Head.Tos++ }},
		{0, "Id", func(p *api.Packet) { p.Head.Id++ }},
		{0, "Df", func(p *api.Packet) { p.Head.Df = !p.Head.Df }},
		{0, "Ttl", func(p *api.Packet) { p.Head.Ttl++ }},
		{0, "Proto", func(p *api.Packet) { p.Head.Proto ^= 1 << 7 }},
		{0, "Src", func(p *api.Packet) { p.Head.Src++ }},
		{0, "Dst", func(p *api.Packet) { p.Head.Dst++ }},
		{0, "Opts", func(p *api.Packet) { p.Head.Opts = append(p.Head.Opts, 0, 0, 0, 0) }},
	}
}

func TestMayByProto(t *testing.T) { // P9.1
	for proto := range 256 {
		known := proto == 1 || proto == 6 || proto == 17
		may(t, "no part", api.Packet{Head: api.Head{Ttl: 1, Proto: byte(proto)}}, known)
		may(t, "no part, full head", bare(byte(proto)), known)
		for _, own := range protos() {
			p := full(own)
			p.Head.Proto = byte(proto)
			may(t, "a part", p, byte(proto) == own)
		}
	}
	may(t, "zero", api.Packet{}, false)
}

func TestMayByParts(t *testing.T) { // P9.1
	for _, proto := range protos() {
		for _, x := range partChanges() {
			for _, p := range []api.Packet{full(proto), bare(proto), {Head: api.Head{Ttl: 1, Proto: proto}}} {
				x.do(&p)
				may(t, x.name, p, x.proto == proto)
			}
		}
		// Empty lists are no option, and no byte (R4).
		p := full(proto)
		for _, b := range []*[]byte{&p.Segment.Data, &p.Datagram.Data, &p.Message.Data} {
			if *b == nil {
				*b = []byte{}
			}
		}
		if p.Segment.Opts == nil {
			p.Segment.Opts = []api.Opt{}
		}
		may(t, "empty lists", p, true)
	}
	all := full(api.Tcp)
	all.Datagram, all.Message = datagram(), message()
	for _, proto := range protos() {
		all.Head.Proto = proto
		may(t, "all parts", all, false)
	}
}

func TestMayByHead(t *testing.T) { // P9.1
	for _, proto := range protos() {
		for ttl := range 256 {
			p := full(proto)
			p.Head.Ttl = byte(ttl)
			may(t, "Ttl", p, ttl > 0)
		}
		for n := range 50 {
			p := full(proto)
			p.Head.Opts = make([]byte, n)
			may(t, "Opts", p, n <= 40 && n%4 == 0)
		}
		p := full(proto)
		p.Head = api.Head{Ttl: 1, Proto: proto}
		may(t, "noughts beside", p, true)
	}
}

// Whether its own part may be, and fits, is not asked of a packet.
func TestMayOfAnyOwnPart(t *testing.T) { // P9.1
	for _, p := range []api.Packet{
		packet.Tcp(1, 2, api.Segment{Opts: []api.Opt{opt(0, "")}}),
		packet.Tcp(1, 2, api.Segment{Opts: []api.Opt{{Kind: 9, Data: make([]byte, 39)}}}),
		packet.Tcp(1, 2, api.Segment{Data: make([]byte, 2000)}),
		{Head: api.Head{Ttl: 1, Proto: api.Udp}, Datagram: api.Datagram{Data: make([]byte, 2000)}},
		packet.Icmp(1, 2, api.Message{Data: make([]byte, 2000)}),
	} {
		may(t, "own part", p, true)
	}
}

func TestSame(t *testing.T) { // P9.1
	all := []api.Packet{{}}
	for _, proto := range protos() {
		all = append(all, bare(proto), full(proto))
	}
	for _, x := range slices.Concat(headChanges(), partChanges()) {
		for _, proto := range protos() { // also where the part is not the Proto's
			p := full(proto)
			x.do(&p)
			all = append(all, p)
		}
	}
	for _, x := range []func(p *api.Packet){
		func(p *api.Packet) { p.Head.Opts[7]++ },
		func(p *api.Packet) { p.Head.Opts = p.Head.Opts[:4] },
		func(p *api.Packet) { p.Head.Src, p.Head.Dst = p.Head.Dst, p.Head.Src },
		func(p *api.Packet) { p.Segment.SPort, p.Segment.DPort = p.Segment.DPort, p.Segment.SPort },
		func(p *api.Packet) { p.Segment.Opts = p.Segment.Opts[:1] },
		func(p *api.Packet) { p.Segment.Opts[0], p.Segment.Opts[1] = p.Segment.Opts[1], p.Segment.Opts[0] },
		func(p *api.Packet) { p.Segment.Opts[0].Data[1]++ },
		func(p *api.Packet) { p.Segment.Data[4]++ },
		func(p *api.Packet) { p.Segment.Data = nil },
	} {
		p := full(api.Tcp)
		x(&p)
		all = append(all, p)
	}
	for i, a := range all {
		for k, b := range all {
			before := cloned(a)
			if got := packet.Same(a, cloned(b)); got != (i == k) {
				t.Errorf("Same(%+v, %+v) = %v", a, b, got)
			}
			if !same(a, before) {
				t.Errorf("%+v became %+v", before, a)
			}
		}
	}
}

func TestSameOfEmpty(t *testing.T) { // R4
	empty := api.Packet{
		Head:     api.Head{Opts: []byte{}},
		Segment:  api.Segment{Opts: []api.Opt{}, Data: []byte{}},
		Datagram: api.Datagram{Data: []byte{}},
		Message:  api.Message{Data: []byte{}},
	}
	if !packet.Same(api.Packet{}, empty) || !packet.Same(empty, api.Packet{}) {
		t.Error("empty lists are not the same as none")
	}
}

func TestBytes(t *testing.T) { // P9.2, P9.3
	for _, proto := range protos() {
		if b := put(t, full(proto)); !bytes.Equal(b, laid(proto)) {
			t.Errorf("Proto %d: % x, want % x", proto, b, laid(proto))
		}
		accept(t, "full", laid(proto), full(proto))
	}
	for _, x := range []struct {
		p    api.Packet
		want string
	}{
		{packet.Tcp(1, 2, api.Segment{SPort: 3, DPort: 4, Flags: api.Syn}),
			"\x45\x00\x00\x28\x00\x00\x40\x00\x40\x06\x3a\xce\x00\x00\x00\x01\x00\x00\x00\x02" +
				"\x00\x03\x00\x04\x00\x00\x00\x00\x00\x00\x00\x00\x50\x02\x00\x00\xaf\xd9\x00\x00"},
		{api.Packet{Head: api.Head{Ttl: 1, Proto: api.Udp}, Datagram: api.Datagram{SPort: 1, DPort: 2}},
			"\x45\x00\x00\x1c\x00\x00\x00\x00\x01\x11\xb9\xd2\x00\x00\x00\x00\x00\x00\x00\x00" +
				"\x00\x01\x00\x02\x00\x08\xff\xdb"},
		{packet.Icmp(9, 10, api.Message{Type: 8, Rest: 0x00010002}),
			"\x45\x00\x00\x1c\x00\x00\x40\x00\x40\x01\x3a\xcf\x00\x00\x00\x09\x00\x00\x00\x0a" +
				"\x08\x00\xf7\xfc\x00\x01\x00\x02"},
	} {
		if b := put(t, x.p); string(b) != x.want {
			t.Errorf("Put(%+v) = % x, want % x", x.p, b, x.want)
		}
		accept(t, "least", []byte(x.want), x.p)
	}
}

func TestPutMayNot(t *testing.T) { // P9.3: ErrArg
	putRefused(t, "zero", api.Packet{}, api.ErrArg)
	for proto := range 256 {
		if proto != 1 && proto != 6 && proto != 17 {
			putRefused(t, "Proto", bare(byte(proto)), api.ErrArg)
		}
	}
	for _, proto := range protos() {
		for _, x := range partChanges() {
			if p := full(proto); x.proto != proto {
				x.do(&p)
				putRefused(t, x.name, p, api.ErrArg)
			}
		}
		p := full(proto)
		p.Head.Ttl = 0
		putRefused(t, "Ttl", p, api.ErrArg)
		for _, n := range []int{1, 2, 3, 5, 39, 41, 44, 60} {
			p := full(proto)
			p.Head.Opts = make([]byte, n)
			putRefused(t, "Opts", p, api.ErrArg)
		}
	}
}

// sized is a packet of n bytes, with so many bytes of the head's Opts.
func sized(proto byte, n, opts int) api.Packet {
	p := api.Packet{Head: api.Head{Ttl: 1, Proto: proto, Src: src, Dst: dst, Opts: make([]byte, opts)}}
	switch n -= 20 + opts; proto {
	case api.Tcp:
		p.Segment.Data = make([]byte, n-20)
	case api.Udp:
		p.Datagram.Data = make([]byte, n-8)
	case api.Icmp:
		p.Message.Data = make([]byte, n-8)
	}
	return p
}

func TestPutLengths(t *testing.T) { // P9.3: ErrLong of the payload, and of the whole
	for _, proto := range protos() {
		for _, opts := range []int{0, 4, 36, 40} {
			for _, n := range []int{100, 101, 1499, 1500} {
				p := sized(proto, n, opts)
				b := put(t, p)
				if len(b) != n {
					t.Errorf("Proto %d, %d bytes: %d", proto, n, len(b))
				}
				accept(t, "of it", b, p)
			}
			for _, n := range []int{1501, 1502, 1540, 1541, 1<<16 + 100} {
				p := sized(proto, n, opts)
				may(t, "too long", p, true)
				putRefused(t, "too long", p, api.ErrLong)
			}
		}
	}
}

func TestPutPayloadErrors(t *testing.T) { // P9.3: the payload's error
	wrong := []api.Opt{opt(1, "")}
	for _, x := range []struct {
		name string
		s    api.Segment
		want api.Errno
	}{
		{"option 0", api.Segment{Opts: []api.Opt{opt(0, "")}}, api.ErrArg},
		{"option 1", api.Segment{Opts: wrong}, api.ErrArg},
		{"an option's Data", api.Segment{Opts: []api.Opt{{Kind: 9, Data: make([]byte, 39)}}}, api.ErrArg},
		{"options", api.Segment{Opts: []api.Opt{{Kind: 9, Data: make([]byte, 38)}, opt(4, "")}}, api.ErrLong},
		{"Data", api.Segment{Data: make([]byte, 1461)}, api.ErrLong},
		{"options and Data", api.Segment{Opts: []api.Opt{opt(4, "")}, Data: make([]byte, 1457)}, api.ErrLong},
		{"option 1, Data", api.Segment{Opts: wrong, Data: make([]byte, 1461)}, api.ErrArg},
	} {
		putRefused(t, x.name, packet.Tcp(src, dst, x.s), x.want)
	}
	// Ahead of that of the whole, and behind that of what may not be.
	p := packet.Tcp(src, dst, api.Segment{Opts: wrong, Data: make([]byte, 1440)})
	p.Head.Opts = make([]byte, 40)
	putRefused(t, "option 1, the whole", p, api.ErrArg)
	p = packet.Tcp(src, dst, api.Segment{Data: make([]byte, 1461)})
	p.Head.Ttl = 0
	putRefused(t, "Ttl, Data", p, api.ErrArg)
}

func TestPutIsNew(t *testing.T) { // R3
	for _, proto := range protos() {
		p := full(proto)
		b, other := put(t, p), put(t, p)
		clear(b[:cap(b)])
		if !same(p, full(proto)) {
			t.Errorf("what was handed in became %+v", p)
		}
		clearAll(p)
		if !bytes.Equal(other, laid(proto)) {
			t.Errorf("what was told became % x", other)
		}
	}
}

func TestParseIsNew(t *testing.T) { // R3
	for _, proto := range protos() {
		b := laid(proto)
		p, _ := packet.Parse(b)
		other, _ := packet.Parse(b)
		clearAll(p)
		if !bytes.Equal(b, laid(proto)) {
			t.Errorf("what was handed in became % x", b)
		}
		clear(b)
		if !same(other, full(proto)) {
			t.Errorf("what was told became %+v", other)
		}
		// No two lists of one answer share any.
		other.Head.Opts = append(other.Head.Opts[:8], 1, 2, 3, 4)[:8]
		for i, o := range other.Segment.Opts {
			other.Segment.Opts[i].Data = append(o.Data, 9)[:len(o.Data)]
		}
		if !same(other, full(proto)) {
			t.Errorf("lists share: %+v", other)
		}
	}
}

func TestParseHead(t *testing.T) { // P9.2: ipv4.Parse's error
	for _, proto := range protos() {
		for _, x := range []struct {
			name string
			b    []byte
			want api.Errno
		}{
			{"version", changed(proto, func(b []byte) { b[0] = 0x57 }), api.ErrForm},
			{"header below 20", changed(proto, func(b []byte) { b[0] = 0x44 }), api.ErrForm},
			{"says more", changed(proto, func(b []byte) { b[3]++ }), api.ErrShort},
			{"says less", changed(proto, func(b []byte) { b[3]-- }), api.ErrForm},
			{"highest flag", changed(proto, func(b []byte) { b[6] |= 0x80 }), api.ErrForm},
			{"lowest flag", changed(proto, func(b []byte) { b[6] |= 0x20 }), api.ErrFragment},
			{"Ttl", changed(proto, func(b []byte) { b[8] = 0 }), api.ErrTtl},
		} {
			refuse(t, x.name, x.b, x.want)
		}
		b := laid(proto)
		b[10]++
		refuse(t, "sum", b, api.ErrSum)
	}
}

func TestFragments(t *testing.T) { // P9.6
	for _, proto := range protos() {
		for bit := range 14 { // the offset's, and the lowest flag
			refuse(t, "a fragment", changed(proto, func(b []byte) {
				b[6+1-bit/8] |= 1 << (bit % 8)
			}), api.ErrFragment)
		}
		accept(t, "no fragment", changed(proto, func(b []byte) {}), full(proto))
	}
}

func TestParseProto(t *testing.T) { // P9.2: ErrProto
	for proto := range 256 {
		h := bare(byte(proto)).Head
		known := proto == 1 || proto == 6 || proto == 17
		for _, data := range [][]byte{nil, {0}, []byte("xy"), make([]byte, 20), bytes.Repeat([]byte{0xfe}, 1472)} {
			if b := of(t, h, data); !known {
				refuse(t, "Proto", b, api.ErrProto)
			} else if _, e := packet.Parse(b); e == api.ErrProto || e == api.OK {
				t.Errorf("Proto %d: %d", proto, e)
			}
		}
		for _, own := range protos() { // also if it would be another Proto's
			b := changed(own, func(b []byte) { b[9] = byte(proto) })
			if !known {
				refuse(t, "another Proto's", b, api.ErrProto)
			} else if byte(proto) != own {
				_, e := packet.Parse(b)
				if e == api.OK || e == api.ErrProto {
					t.Errorf("%d's payload with Proto %d: %d", own, proto, e)
				}
			}
		}
	}
	// The head's error comes first.
	for _, x := range []struct {
		name   string
		change func(b []byte)
		want   api.Errno
	}{
		{"Ttl", func(b []byte) { b[8] = 0 }, api.ErrTtl},
		{"flag", func(b []byte) { b[6] |= 0x20 }, api.ErrFragment},
		{"version", func(b []byte) { b[0] = 0x67 }, api.ErrForm},
	} {
		b := changed(api.Tcp, func(b []byte) {
			b[9] = 47
			x.change(b)
		})
		refuse(t, x.name, b, x.want)
	}
	b := laid(api.Udp)
	b[9] = 47
	refuse(t, "sum", b, api.ErrSum)
}

func TestParsePayload(t *testing.T) { // P9.2: the payload's error
	for _, proto := range protos() {
		h := bare(proto).Head
		good := laid(proto)[28:]
		least := 8
		if proto == api.Tcp {
			least = 20
		}
		for n := range least {
			refuse(t, "too few", of(t, h, good[:n]), api.ErrShort)
		}
		for _, n := range []int{1472, 1473, 1480} { // right heads, of payloads of noughts
			b := of(t, api.Head{Ttl: 1, Proto: proto}, make([]byte, n))
			want := map[byte]api.Errno{api.Tcp: api.ErrForm, api.Udp: api.ErrForm, api.Icmp: api.ErrSum}[proto]
			refuse(t, "noughts", b, want)
		}
		for i := range good { // each byte's error is the payload's own
			wrong := bytes.Clone(good)
			wrong[i]++
			refuse(t, "a byte", of(t, h, wrong), payloadError(h, wrong))
		}
		refuse(t, "without its last byte", of(t, h, good[:len(good)-1]), payloadError(h, good[:len(good)-1]))
		more := append(bytes.Clone(good), 1)
		refuse(t, "with a byte more", of(t, h, more), payloadError(h, more))
	}
	// Options that are wrong, though the sum is right.
	b := put(t, packet.Tcp(src, dst, segment()))
	b[41] = 1
	fixed(b)
	refuse(t, "a length below 2", b, api.ErrForm)
}

// payloadError is the error of b's reader by the head's Proto.
func payloadError(h api.Head, b []byte) api.Errno {
	e := api.ErrProto
	switch h.Proto {
	case api.Tcp:
		_, e = tcp.Parse(h.Src, h.Dst, b)
	case api.Udp:
		_, e = udp.Parse(h.Src, h.Dst, b)
	case api.Icmp:
		_, e = icmp.Parse(b)
	}
	return e
}

func TestBetweenTheAddresses(t *testing.T) { // P9.2, P9.3
	for _, proto := range protos() {
		for at := 12; at < 20; at++ {
			b := changed(proto, func(b []byte) { b[at]++ })
			if proto != api.Icmp {
				refuse(t, "another address", b, api.ErrSum)
				continue
			}
			p := full(proto)
			p.Head.Src = uint32(b[12])<<24 | uint32(b[13])<<16 | uint32(b[14])<<8 | uint32(b[15])
			p.Head.Dst = uint32(b[16])<<24 | uint32(b[17])<<16 | uint32(b[18])<<8 | uint32(b[19])
			accept(t, "another address", b, p)
		}
	}
	// Each of both is taken, and each at its place.
	p := packet.Tcp(0x01020304, 0x05060708, segment())
	b, _ := tcp.Put(0x01020304, 0x05060708, segment())
	if got := put(t, p); !bytes.Equal(got[20:], b) || string(got[12:20]) != "\x01\x02\x03\x04\x05\x06\x07\x08" {
		t.Errorf("% x", got)
	}
	// A datagram without a field is between any.
	none := changed(api.Udp, func(b []byte) { b[34], b[35] = 0, 0 })
	accept(t, "no field", none, full(api.Udp))
	none[15]++
	other := full(api.Udp)
	other.Head.Src++
	accept(t, "no field, another address", righted(none), other)
}

// made holds p, which was made of the part that want has, against want with
// the head that it must have.
func made(t *testing.T, p api.Packet, proto byte, from, to uint32, want api.Packet) {
	t.Helper()
	want.Head = api.Head{Df: true, Ttl: 64, Proto: proto, Src: from, Dst: to}
	if !same(p, want) {
		t.Errorf("made %+v, want %+v", p, want)
	}
	may(t, "made", p, true)
}

func TestMade(t *testing.T) { // P9.4
	for _, a := range []uint32{0, 1, src, dst, 1 << 31, 1<<32 - 1} {
		// Also of those that may not be.
		for _, s := range []api.Segment{{}, segment(), {Opts: []api.Opt{opt(0, "")}}, {Data: make([]byte, 2000)}} {
			made(t, packet.Tcp(a, ^a, s), 6, a, ^a, api.Packet{Segment: s})
		}
		for _, m := range []api.Message{{}, message(), {Type: 8, Rest: 7}, {Data: make([]byte, 2000)}} {
			made(t, packet.Icmp(a, ^a, m), 1, a, ^a, api.Packet{Message: m})
		}
	}
}

func TestMadeIsNew(t *testing.T) { // R3
	s, m := segment(), message()
	clearAll(packet.Tcp(1, 2, s))
	clearAll(packet.Icmp(1, 2, m))
	if !same(api.Packet{Segment: s, Message: m}, api.Packet{Segment: segment(), Message: message()}) {
		t.Errorf("what was handed in became %+v, %+v", s, m)
	}
	p, q := packet.Tcp(1, 2, s), packet.Icmp(1, 2, m)
	clearAll(api.Packet{Segment: s, Message: m})
	if !same(p, packet.Tcp(1, 2, segment())) || !same(q, packet.Icmp(1, 2, message())) {
		t.Errorf("what was told became %+v, %+v", p, q)
	}
}

func TestBack(t *testing.T) { // P9.5
	var c chance = 1
	for n := range 3000 {
		p := c.packet(protos()[n%3], int(c.next()%1381))
		may(t, "made", p, true)
		b := put(t, p)
		accept(t, "put", b, p)
		if again := put(t, p); !bytes.Equal(again, b) {
			t.Errorf("%+v: once % x, then % x", p, b, again)
		}
	}
}

// fixed lays the right field of the payload of b, whose header has 20 bytes;
// b has room for it.
func fixed(b []byte) {
	at, proto := map[byte]int{api.Tcp: 16, api.Udp: 6, api.Icmp: 2}[b[9]], b[9]
	rest := b[20:]
	rest[at], rest[at+1] = 0, 0
	var all uint64
	if proto != api.Icmp {
		all = uint64(proto) + uint64(len(rest))
		rest = b[12:] // the addresses, too
	}
	for i, x := range rest {
		all += uint64(x) << (8 * (1 - i%2))
	}
	all = 0xffff - all%0xffff
	b[20+at], b[21+at] = byte(all>>8), byte(all)
}

// anything makes bytes that come as far as chance has it, most with a header
// of 20 bytes.
func (c *chance) anything() []byte {
	if c.next()%20 == 0 {
		return c.bytes(int(c.next() % 80))
	}
	n := 20 + int(c.next()%100)
	if c.next()%50 == 0 {
		n = 1490 + int(c.next()%20)
	}
	b := c.bytes(n)
	b[0], b[2], b[3], b[6], b[7] = 0x45, byte(n>>8), byte(n), byte(c.next()%2)<<6, 0
	if c.next()%8 > 0 {
		b[9] = protos()[c.next()%3]
	}
	if b[9] == api.Tcp && n >= 40 {
		ahead := min(5+c.next()%4, uint64(n-20)/4)
		b[32] = byte(ahead<<4 | c.next()%16)
		if left := b[40 : 20+ahead*4]; c.next()%4 > 0 { // options that may be
			for i := range left {
				left[i] = 1
			}
			if len(left) > 3 {
				copy(left, "\x01\x02\x04\x05")
			}
		}
	}
	if b[9] == api.Udp && n >= 28 && c.next()%8 > 0 {
		b[24], b[25] = byte((n-20)>>8), byte(n-20)
	}
	if slices.Contains(protos(), b[9]) && n >= 40 && c.next()%8 > 0 {
		fixed(b)
	}
	if c.next()%10 > 0 {
		return righted(b)
	}
	return b
}

func TestParseOfAnything(t *testing.T) { // P9.2, P9.5, R1, R2
	var c chance = 4
	seen := map[api.Errno]int{}
	taken := map[byte]int{}
	for range 50000 {
		b := c.anything()
		h, payload, want := ipv4.Parse(b)
		if want == api.OK {
			want = payloadError(h, payload)
		}
		seen[want]++
		if want != api.OK {
			refuse(t, "chance", b, want)
			continue
		}
		p, e := packet.Parse(b)
		if e != api.OK {
			t.Errorf("Parse(% x) = %d", b, e)
			continue
		}
		taken[p.Head.Proto]++
		may(t, "parsed", p, true)
		accept(t, "put and parsed again", put(t, p), p)
	}
	for _, e := range []api.Errno{api.OK, api.ErrLong, api.ErrShort, api.ErrForm, api.ErrSum, api.ErrProto, api.ErrTtl} {
		if seen[e] < 100 {
			t.Errorf("%d came %d times", e, seen[e])
		}
	}
	for _, proto := range protos() {
		if taken[proto] < 1000 {
			t.Errorf("Proto %d was taken %d times", proto, taken[proto])
		}
	}
}

func TestTooShortTooLong(t *testing.T) { // P9.6
	refuse(t, "nil", nil, api.ErrShort)
	refuse(t, "empty", []byte{}, api.ErrShort)
	for _, proto := range protos() {
		good := laid(proto)
		for n := range good {
			refuse(t, "a beginning", good[:n], api.ErrShort)
		}
		for n := 1; n <= 1500-len(good); n++ {
			refuse(t, "more behind", append(laid(proto), make([]byte, n)...), api.ErrForm)
		}
		refuse(t, "too long", append(laid(proto), make([]byte, 1501-len(good))...), api.ErrLong)
		// Too long, with all sums right.
		for _, n := range []int{1501, 1502, 1600, 1<<16 - 1} {
			b := make([]byte, n)
			copy(b, put(t, sized(proto, 100, 0)))
			b[2], b[3] = byte(n>>8), byte(n)
			if proto == api.Udp {
				b[24], b[25] = byte((n-20)>>8), byte(n-20)
			}
			fixed(b)
			refuse(t, "too long, but right", righted(b), api.ErrLong)
		}
	}
}

func TestBitTurned(t *testing.T) { // P9.6
	var c chance = 2
	for n := range 60 {
		for _, proto := range protos() {
			p := c.packet(proto, n)
			b := put(t, p)
			header := 20 + len(p.Head.Opts)
			for bit := range 8 * len(b) {
				if bit/8 == 0 && bit%8 < 4 {
					continue // the four that say how long the header is
				}
				b[bit/8] ^= 1 << (bit % 8)
				field := header + 6 // of a datagram, that must not become none
				if proto != api.Udp || b[field] != 0 || b[field+1] != 0 {
					got, e := packet.Parse(b)
					if e == api.OK || !same(got, api.Packet{}) {
						t.Errorf("%+v, bit %d turned: %+v, %d", p, bit, got, e)
					}
				}
				b[bit/8] ^= 1 << (bit % 8)
			}
			accept(t, "turned back", b, p)
		}
	}
}

func TestOneSumWrong(t *testing.T) { // P9.6
	for _, proto := range protos() {
		field := 28 + map[byte]int{api.Tcp: 16, api.Udp: 6, api.Icmp: 2}[proto]
		for _, at := range []int{10, field} {
			good := laid(proto)
			right := int(good[at])<<8 | int(good[at+1])
			for f := range 1 << 16 {
				b := laid(proto)
				b[at], b[at+1] = byte(f>>8), byte(f)
				if f == right || proto == api.Udp && at == field && f == 0 {
					accept(t, "field", b, full(proto))
				} else if p, e := packet.Parse(b); e != api.ErrSum || !same(p, api.Packet{}) {
					t.Errorf("Proto %d, the field at %d %04x: %+v, %d", proto, at, f, p, e)
				}
			}
		}
	}
}

func TestExamples(t *testing.T) {
	p := packet.Tcp(1, 2, api.Segment{SPort: 3, DPort: 4, Flags: api.Syn})
	accept(t, "SYN", put(t, p), p)
	for _, b := range [][]byte{nil, []byte("xy"), laid(api.Udp)} {
		refuse(t, "Proto 47", of(t, api.Head{Ttl: 64, Proto: 47}, b), api.ErrProto)
	}
	q := api.Packet{Head: api.Head{Ttl: 64, Proto: api.Udp}, Segment: api.Segment{SPort: 5}}
	putRefused(t, "Udp with a Segment's port", q, api.ErrArg)
}
