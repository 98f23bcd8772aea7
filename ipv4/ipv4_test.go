package ipv4_test

import (
	"bytes"
	"math"
	"slices"
	"testing"

	"culvert/api"
	"culvert/ipv4"
	"culvert/sum"
)

// chance makes bytes that look like chance, always the same ones.
type chance uint64

func (c *chance) next() uint64 {
	*c = *c*6364136223846793005 + 1442695040888963407
	return uint64(*c) >> 32
}

func (c *chance) bytes(n int) []byte {
	out := make([]byte, n)
	for i := range out {
		out[i] = byte(c.next())
	}
	return out
}

// head makes a head that may be.
func (c *chance) head() api.Head {
	return api.Head{
		Tos: byte(c.next()), Id: uint16(c.next()), Df: c.next()%2 == 0,
		Ttl: byte(c.next()%255) + 1, Proto: byte(c.next()),
		Src: uint32(c.next()), Dst: uint32(c.next()),
		Opts: c.bytes(int(c.next()%11) * 4),
	}
}

// full is a head of which nothing is 0.
func full() api.Head {
	return api.Head{
		Tos: 0xb8, Id: 0x1234, Df: true, Ttl: 64, Proto: api.Tcp,
		Src: 0x0a010203, Dst: 0xcb007109, Opts: []byte{7, 7, 4, 0, 1, 2, 3, 4},
	}
}

// laid is the bytes of a header with the right field, laid in another way than
// the program's; first and long need not be what the bytes have.
func laid(first byte, long int, flags uint16, ttl byte, opts []byte) []byte {
	b := []byte{
		first, 0x10, byte(long >> 8), byte(long), 0xab, 0xcd, byte(flags >> 8), byte(flags),
		ttl, api.Udp, 0, 0, 10, 0, 0, 1, 192, 0, 2, 7,
	}
	b = append(b, opts...)
	return righted(b, len(b))
}

// righted lays the field of the first header bytes of b.
func righted(b []byte, header int) []byte {
	b[10], b[11] = 0, 0
	var all uint32
	for i := 0; i+1 < header; i += 2 {
		all += uint32(b[i])<<8 | uint32(b[i+1])
	}
	for all > 0xffff {
		all = all&0xffff + all>>16
	}
	b[10], b[11] = ^byte(all>>8), ^byte(all)
	return b
}

// put tells Put's bytes, which must be there.
func put(t *testing.T, h api.Head, payload []byte) []byte {
	t.Helper()
	b, e := ipv4.Put(h, payload)
	if e != api.OK {
		t.Fatalf("Put(%+v, %d bytes) = %d", h, len(payload), e)
	}
	return b
}

// refuse holds Parse's answer against want, beside which nothing is told.
func refuse(t *testing.T, name string, b []byte, want api.Errno) {
	t.Helper()
	before := bytes.Clone(b)
	h, payload, e := ipv4.Parse(b)
	if e != want {
		t.Errorf("%s: Parse tells %d, want %d", name, e, want)
	}
	if !ipv4.Same(h, api.Head{}) || len(payload) != 0 {
		t.Errorf("%s: beside an error %+v, % x are told", name, h, payload)
	}
	if !bytes.Equal(b, before) {
		t.Errorf("%s: % x became % x", name, before, b)
	}
}

// accept holds Parse's answer against h and payload.
func accept(t *testing.T, name string, b []byte, h api.Head, payload []byte) {
	t.Helper()
	before := bytes.Clone(b)
	gotHead, got, e := ipv4.Parse(b)
	if e != api.OK || !ipv4.Same(gotHead, h) || !bytes.Equal(got, payload) {
		t.Errorf("%s: Parse tells %+v, % x, %d, want %+v, % x", name, gotHead, got, e, h, payload)
	}
	if !bytes.Equal(b, before) {
		t.Errorf("%s: % x became % x", name, before, b)
	}
}

func TestMay(t *testing.T) { // P4.1
	for _, x := range []struct {
		name string
		h    api.Head
		want bool
	}{
		{"zero", api.Head{}, false},
		{"full", full(), true},
		{"nothing but Ttl", api.Head{Ttl: 1}, true},
		{"greatest Ttl", api.Head{Ttl: 255}, true},
		{"all but Ttl", api.Head{Tos: 1, Id: 1, Df: true, Proto: 1, Src: 1, Dst: 1, Opts: make([]byte, 4)}, false},
		{"greatest", api.Head{Tos: 255, Id: math.MaxUint16, Df: true, Ttl: 255, Proto: 255, Src: math.MaxUint32, Dst: math.MaxUint32, Opts: bytes.Repeat([]byte{255}, 40)}, true},
		{"empty Opts", api.Head{Ttl: 1, Opts: []byte{}}, true},
	} {
		if got := ipv4.May(x.h); got != x.want {
			t.Errorf("%s: %v, want %v", x.name, got, x.want)
		}
	}
	for n := range 100 {
		want := n <= 40 && n%4 == 0
		if got := ipv4.May(api.Head{Ttl: 1, Opts: make([]byte, n)}); got != want {
			t.Errorf("%d bytes of Opts: %v, want %v", n, got, want)
		}
		if ipv4.May(api.Head{Opts: make([]byte, n)}) {
			t.Errorf("%d bytes of Opts, and no Ttl, may be", n)
		}
	}
}

func TestSame(t *testing.T) { // P4.1
	heads := []api.Head{full(), {}}
	for _, change := range []func(h *api.Head){
		func(h *api.Head) { h.Tos++ },
		func(h *api.Head) { h.Id += 1 << 15 },
		func(h *api.Head) { h.Df = false },
		func(h *api.Head) { h.Ttl-- },
		func(h *api.Head) { h.Proto ^= 0x80 },
		func(h *api.Head) { h.Src++ },
		func(h *api.Head) { h.Src, h.Dst = h.Dst, h.Src },
		func(h *api.Head) { h.Dst ^= 1 << 31 },
		func(h *api.Head) { h.Opts = nil },
		func(h *api.Head) { h.Opts = h.Opts[:4] },
		func(h *api.Head) { h.Opts = append(h.Opts, 0) },
		func(h *api.Head) { h.Opts[0]++ },
		func(h *api.Head) { h.Opts[7]++ },
	} {
		h := full()
		change(&h)
		heads = append(heads, h)
	}
	for i, a := range heads {
		for k, b := range heads {
			if got := ipv4.Same(a, b); got != (i == k) {
				t.Errorf("Same(%+v, %+v) = %v", a, b, got)
			}
		}
	}
	if !ipv4.Same(full(), full()) {
		t.Error("two of the same are not the same, each with Opts of its own")
	}
	// nil and empty are one (R4).
	if !ipv4.Same(api.Head{Ttl: 1}, api.Head{Ttl: 1, Opts: []byte{}}) {
		t.Error("no Opts and empty ones are not the same")
	}
}

func TestPutBytes(t *testing.T) { // P4.2
	for _, x := range []struct {
		name    string
		h       api.Head
		payload string
		want    string
	}{
		{"least", api.Head{Ttl: 1}, "", "\x45\x00\x00\x14\x00\x00\x00\x00\x01\x00\xb9\xeb\x00\x00\x00\x00\x00\x00\x00\x00"},
		{"example", api.Head{Ttl: 64, Proto: 17, Src: 0x0a000001, Dst: 0x0a000002}, "hi", "\x45\x00\x00\x16\x00\x00\x00\x00\x40\x11\x66\xd5\x0a\x00\x00\x01\x0a\x00\x00\x02\x68\x69"},
		{"full", full(), "abc", "\x47\xb8\x00\x1f\x12\x34\x40\x00\x40\x06\xce\xd2\x0a\x01\x02\x03\xcb\x00\x71\x09\x07\x07\x04\x00\x01\x02\x03\x04abc"},
		// Words of which all but the field add up to ffff: the field is 0000.
		{"field 0000", api.Head{Ttl: 1, Dst: 0xb9eb}, "", "\x45\x00\x00\x14\x00\x00\x00\x00\x01\x00\x00\x00\x00\x00\x00\x00\x00\x00\xb9\xeb"},
	} {
		if b := put(t, x.h, []byte(x.payload)); string(b) != x.want {
			t.Errorf("%s: % x, want % x", x.name, b, x.want)
		}
		accept(t, x.name, []byte(x.want), x.h, []byte(x.payload))
	}
}

func TestPutLengths(t *testing.T) { // P4.2
	for opts := 0; opts <= 40; opts += 4 {
		h := api.Head{Ttl: 9, Id: 0xffff, Opts: bytes.Repeat([]byte{0xa5}, opts)}
		most := 1500 - 20 - opts
		for _, n := range []int{0, 1, 2, 235, 236, 237, most - 1, most} {
			payload := bytes.Repeat([]byte{0x5a}, n)
			b := put(t, h, payload)
			long := 20 + opts + n
			if len(b) != long || int(b[2])<<8+int(b[3]) != long || int(b[0]) != 0x45+opts/4 {
				t.Errorf("Opts of %d, payload of %d: % x", opts, n, b)
			}
			if !bytes.Equal(b[20:20+opts], h.Opts) || !bytes.Equal(b[20+opts:], payload) {
				t.Errorf("Opts of %d, payload of %d: not behind the header: % x", opts, n, b)
			}
			// The field is of the header alone.
			if !bytes.Equal(righted(bytes.Clone(b), 20+opts), b) {
				t.Errorf("Opts of %d, payload of %d: the field is %02x%02x", opts, n, b[10], b[11])
			}
		}
		for _, n := range []int{most + 1, most + 2, 1500, 1 << 16, 1<<16 + 1, 1 << 20} {
			if b, e := ipv4.Put(h, make([]byte, n)); e != api.ErrLong || len(b) != 0 {
				t.Errorf("Opts of %d, payload of %d: %d bytes, %d", opts, n, len(b), e)
			}
		}
	}
}

func TestPutOfWhatMayNotBe(t *testing.T) { // P4.2: ErrArg comes ahead of ErrLong
	for _, h := range []api.Head{
		{}, {Opts: make([]byte, 4)},
		{Ttl: 1, Opts: make([]byte, 1)}, {Ttl: 1, Opts: make([]byte, 39)}, {Ttl: 1, Opts: make([]byte, 41)},
		{Ttl: 1, Opts: make([]byte, 44)}, {Ttl: 1, Opts: make([]byte, 1500)}, {Ttl: 1, Opts: make([]byte, 1<<16)},
	} {
		for _, n := range []int{0, 1, 1480, 1481, 2000} {
			if b, e := ipv4.Put(h, make([]byte, n)); e != api.ErrArg || len(b) != 0 {
				t.Errorf("Ttl %d, Opts of %d, payload of %d: % x, %d", h.Ttl, len(h.Opts), n, b, e)
			}
		}
	}
}

func TestPutIsNew(t *testing.T) { // R3
	all := bytes.Repeat([]byte{3}, 64)
	h := api.Head{Ttl: 1, Opts: all[:8]} // with room behind it
	payload := all[8:16]
	b := put(t, h, payload)
	clear(b[:cap(b)])
	if !bytes.Equal(all, bytes.Repeat([]byte{3}, 64)) {
		t.Errorf("what was handed in became % x", all)
	}
	other := put(t, h, payload)
	clear(all)
	if !bytes.Equal(other[20:], bytes.Repeat([]byte{3}, 16)) {
		t.Errorf("what was told became % x", other)
	}
}

func TestParse(t *testing.T) { // P4.3
	h := api.Head{Tos: 0x10, Id: 0xabcd, Ttl: 64, Proto: api.Udp, Src: 0x0a000001, Dst: 0xc0000207}
	accept(t, "bare", laid(0x45, 20, 0, 64, nil), h, nil)
	accept(t, "payload", append(laid(0x45, 23, 0, 64, nil), "abc"...), h, []byte("abc"))
	accept(t, "longest", append(laid(0x45, 1500, 0, 64, nil), make([]byte, 1480)...), h, make([]byte, 1480))

	df := h
	df.Df = true
	accept(t, "Df", laid(0x45, 20, 0x4000, 64, nil), df, nil)

	for _, ttl := range []byte{1, 2, 127, 128, 255} {
		k := h
		k.Ttl = ttl
		accept(t, "Ttl", laid(0x45, 20, 0, ttl, nil), k, nil)
	}
	for n := range 11 {
		k := h
		k.Opts = bytes.Repeat([]byte{9}, n*4)
		first := byte(0x45 + n)
		accept(t, "Opts", laid(first, 20+4*n, 0, 64, k.Opts), k, nil)
		accept(t, "Opts and payload", append(laid(first, 22+4*n, 0, 64, k.Opts), "xy"...), k, []byte("xy"))
	}
}

func TestParseIsNew(t *testing.T) { // R3
	opts := []byte{1, 2, 3, 4}
	b := append(laid(0x46, 27, 0, 64, opts), "abc"...)
	before := bytes.Clone(b)
	h, payload, _ := ipv4.Parse(b)
	k, again, _ := ipv4.Parse(b)
	clear(h.Opts[:cap(h.Opts)])
	if string(payload) != "abc" {
		t.Errorf("Opts and payload share memory: % x", payload)
	}
	clear(payload[:cap(payload)])
	if !bytes.Equal(b, before) {
		t.Errorf("what was handed in became % x", b)
	}
	clear(b)
	if !bytes.Equal(k.Opts, opts) || string(again) != "abc" {
		t.Errorf("what was told became % x, % x", k.Opts, again)
	}
}

func TestLengths(t *testing.T) { // P4.3: ErrLong, ErrShort
	refuse(t, "nil", nil, api.ErrShort)
	refuse(t, "none", []byte{}, api.ErrShort)
	good := laid(0x45, 20, 0, 64, nil)
	for n := range 20 {
		refuse(t, "a beginning of the header", good[:n], api.ErrShort)
		refuse(t, "noughts", make([]byte, n), api.ErrShort) // ahead of ErrForm
	}
	for _, n := range []int{1501, 1502, 1 << 16, 1 << 20} {
		refuse(t, "noughts", make([]byte, n), api.ErrLong)
		refuse(t, "a good one, and more", append(laid(0x45, 1500, 0, 64, nil), make([]byte, n-20)...), api.ErrLong)
	}
	refuse(t, "1500 noughts", make([]byte, 1500), api.ErrForm)

	// The header's bytes.
	for n := 6; n <= 15; n++ {
		b := laid(0x40+byte(n), 4*n, 0, 64, make([]byte, 4*n-20))
		for k := 20; k < 4*n; k++ {
			refuse(t, "a beginning of the header", b[:k], api.ErrShort)
		}
	}
	// The packet's bytes.
	whole := append(laid(0x45, 60, 0, 64, nil), make([]byte, 40)...)
	for n := 20; n < 60; n++ {
		refuse(t, "a beginning", whole[:n], api.ErrShort)
	}
	refuse(t, "says one more than there are", laid(0x45, 21, 0, 64, nil), api.ErrShort)
	refuse(t, "says most", laid(0x45, 0xffff, 0, 64, nil), api.ErrShort)
}

func TestForm(t *testing.T) { // P4.3: ErrForm
	for first := range 256 {
		b := laid(byte(first), 60, 0, 64, make([]byte, 40))
		if first>>4 != 4 || first&0xf < 5 {
			refuse(t, "first byte", b, api.ErrForm)
		} else {
			_, _, e := ipv4.Parse(righted(b, (first&0xf)*4))
			if e != api.OK {
				t.Errorf("first byte %x: %d", first, e)
			}
		}
	}
	for long := range 24 { // it says fewer than the header has
		refuse(t, "fewer than the header", laid(0x46, long, 0, 64, make([]byte, 4)), api.ErrForm)
	}
	for n := 1; n < 50; n++ { // it says fewer than there are
		refuse(t, "more than it says", append(laid(0x45, 20, 0, 64, nil), make([]byte, n)...), api.ErrForm)
	}
	for _, flags := range []uint16{0x8000, 0xc000, 0xa000, 0xe000, 0x8001, 0xffff} {
		refuse(t, "highest flag", laid(0x45, 20, flags, 64, nil), api.ErrForm)
	}
}

func TestWrongSum(t *testing.T) { // P4.3: ErrSum
	good := append(laid(0x46, 30, 0, 64, []byte{1, 2, 3, 4}), "abcdef"...)
	field := int(good[10])<<8 | int(good[11])
	for f := range 1 << 16 {
		b := bytes.Clone(good)
		b[10], b[11] = byte(f>>8), byte(f)
		if f != field {
			refuse(t, "field", b, api.ErrSum)
		}
	}
	// The payload has no part in it, the options do.
	for i := 20; i < 30; i++ {
		b := bytes.Clone(good)
		b[i]++
		_, _, e := ipv4.Parse(b)
		if want := map[bool]api.Errno{true: api.ErrSum, false: api.OK}[i < 24]; e != want {
			t.Errorf("byte %d changed: %d, want %d", i, e, want)
		}
	}
	// 0000 and ffff stand for each other.
	h := api.Head{Ttl: 1, Dst: 0xb9eb}
	b := put(t, h, nil)
	accept(t, "field 0000", b, h, nil)
	b[10], b[11] = 0xff, 0xff
	accept(t, "field ffff", b, h, nil)
}

func TestFragmentAndTtl(t *testing.T) { // P4.3: ErrFragment, ErrTtl
	for i := range 14 { // more, and each bit of the offset
		refuse(t, "fragment", laid(0x45, 20, 1<<i, 64, nil), api.ErrFragment)
		refuse(t, "fragment, Df", laid(0x45, 20, 0x4000|1<<i, 64, nil), api.ErrFragment)
	}
	refuse(t, "fragment", laid(0x45, 20, 0x3fff, 64, nil), api.ErrFragment)
	refuse(t, "no Ttl", laid(0x45, 20, 0, 0, nil), api.ErrTtl)
	refuse(t, "no Ttl, Df", append(laid(0x46, 26, 0x4000, 0, make([]byte, 4)), 1, 2), api.ErrTtl)
}

func TestOrder(t *testing.T) { // P4.3: of two things that are wrong, the one named first
	wrongSum := func(b []byte) []byte {
		b[10]++
		return b
	}
	for _, x := range []struct {
		name string
		b    []byte
		want api.Errno
	}{
		{"too long, version", bytes.Repeat([]byte{0x55}, 1501), api.ErrLong},
		{"too long, sum", wrongSum(append(laid(0x45, 1501, 0, 64, nil), make([]byte, 1481)...)), api.ErrLong},
		{"too few for a header, version", bytes.Repeat([]byte{0x55}, 19), api.ErrShort},
		{"too few for a header, its length", bytes.Repeat([]byte{0x44}, 19), api.ErrShort},
		{"version, fewer than the header", laid(0x56, 20, 0, 64, nil), api.ErrForm},
		{"header's length, fewer than the packet", laid(0x44, 21, 0, 64, nil), api.ErrForm},
		{"fewer than the header, says fewer than it", laid(0x46, 19, 0, 64, nil), api.ErrShort},
		{"fewer than the header, says fewer than there are", laid(0x4f, 20, 0, 64, []byte{0}), api.ErrShort},
		{"fewer than the packet, sum", wrongSum(laid(0x45, 21, 0, 64, nil)), api.ErrShort},
		{"fewer than the packet, says fewer than the header", laid(0x4f, 50, 0, 64, make([]byte, 20)), api.ErrShort},
		{"says fewer than the header, sum", wrongSum(laid(0x45, 19, 0, 64, nil)), api.ErrForm},
		{"says fewer than there are, sum", wrongSum(append(laid(0x45, 20, 0, 64, nil), 0)), api.ErrForm},
		{"says fewer than there are, fragment", append(laid(0x45, 20, 1, 64, nil), 0), api.ErrForm},
		{"sum, highest flag", wrongSum(laid(0x45, 20, 0x8000, 64, nil)), api.ErrSum},
		{"sum, fragment", wrongSum(laid(0x45, 20, 0x2000, 64, nil)), api.ErrSum},
		{"sum, no Ttl", wrongSum(laid(0x45, 20, 0, 0, nil)), api.ErrSum},
		{"highest flag, fragment", laid(0x45, 20, 0xa000, 64, nil), api.ErrForm},
		{"highest flag, no Ttl", laid(0x45, 20, 0x8000, 0, nil), api.ErrForm},
		{"lowest flag, no Ttl", laid(0x45, 20, 0x2000, 0, nil), api.ErrFragment},
		{"offset, no Ttl", laid(0x45, 20, 1, 0, nil), api.ErrFragment},
	} {
		refuse(t, x.name, x.b, x.want)
	}
}

func TestParseOfAnything(t *testing.T) { // R1, R2
	var c chance = 4
	for range 20000 {
		b := c.bytes(int(c.next() % 80))
		if len(b) >= 20 { // so that it comes further
			switch c.next() % 3 {
			case 0:
				b[0] = 0x40 | b[0]&0xf
			case 1:
				b[0], b[2], b[3] = 0x40|b[0]&0xf, 0, byte(len(b))
				righted(b, min(len(b), int(b[0]&0xf)*4))
			}
		}
		h, payload, e := ipv4.Parse(b)
		if e != api.OK {
			refuse(t, "chance", b, e)
		} else if !ipv4.May(h) || 20+len(h.Opts)+len(payload) != len(b) {
			t.Errorf("% x: %+v, % x", b, h, payload)
		}
	}
}

func TestBack(t *testing.T) { // P4.4
	var c chance = 1
	for range 2000 {
		h := c.head()
		payload := c.bytes(int(c.next() % uint64(1500-20-len(h.Opts)+1)))
		b := put(t, h, payload)
		accept(t, "put", b, h, payload)
		if again := put(t, h, payload); !bytes.Equal(again, b) {
			t.Errorf("%+v: once % x, then % x", h, b, again)
		}
	}
}

func TestForth(t *testing.T) { // P4.4
	var c chance = 2
	for range 2000 {
		opts := c.bytes(int(c.next()%11) * 4)
		payload := c.bytes(int(c.next() % 100))
		header := 20 + len(opts)
		b := append(c.bytes(20), append(opts, payload...)...)
		b[0] = 0x40 | byte(header/4)
		b[2], b[3] = byte(len(b)>>8), byte(len(b))
		b[6], b[7] = b[6]&0x40, 0
		b[8] |= 1
		righted(b, header)
		h, got, e := ipv4.Parse(b)
		if e != api.OK {
			t.Fatalf("% x: %d", b, e)
		}
		if again := put(t, h, got); !bytes.Equal(again, b) {
			t.Errorf("% x becomes % x", b, again)
		}
	}
	// ffff comes out as 0000, and all else is the same.
	b := put(t, api.Head{Ttl: 1, Dst: 0xb9e8}, []byte("abc"))
	if b[10] != 0 || b[11] != 0 {
		t.Fatalf("the field of % x is not 0000", b)
	}
	other := slices.Clone(b)
	other[10], other[11] = 0xff, 0xff
	h, payload, _ := ipv4.Parse(other)
	if again := put(t, h, payload); !bytes.Equal(again, b) {
		t.Errorf("% x becomes % x", other, again)
	}
}

func TestBitTurned(t *testing.T) { // P4.5
	var c chance = 3
	heads := []api.Head{{Ttl: 1}, {Ttl: 1, Dst: 0xb9eb}, full()}
	for range 100 {
		heads = append(heads, c.head())
	}
	for _, h := range heads {
		for _, n := range []int{0, 1, 44, 1500 - 20 - len(h.Opts)} {
			b := put(t, h, c.bytes(n))
			for bit := range (20 + len(h.Opts)) * 8 {
				if bit >= 4 && bit < 8 { // they say how long the header is
					continue
				}
				turned := bytes.Clone(b)
				turned[bit/8] ^= 0x80 >> (bit % 8)
				if k, payload, e := ipv4.Parse(turned); e == api.OK || !ipv4.Same(k, api.Head{}) || len(payload) != 0 {
					t.Errorf("% x with bit %d turned: %+v, %d", b, bit, k, e)
				}
			}
		}
	}
	// Of a field of ffff, too: it does not become 0000 by one bit.
	b := put(t, heads[1], nil)
	b[10], b[11] = 0xff, 0xff
	for bit := range 16 {
		turned := slices.Clone(b)
		turned[10+bit/8] ^= 0x80 >> (bit % 8)
		if !sum.Right(b) || sum.Right(turned) {
			t.Fatalf("% x", b)
		}
		refuse(t, "field", turned, api.ErrSum)
	}
}

func TestExamples(t *testing.T) {
	h := api.Head{Ttl: 64, Proto: 17, Src: 0x0a000001, Dst: 0x0a000002}
	b := put(t, h, []byte{0x68, 0x69})
	want := []byte{0x45, 0, 0, 0x16, 0, 0, 0, 0, 0x40, 0x11, b[10], b[11], 0x0a, 0, 0, 1, 0x0a, 0, 0, 2, 0x68, 0x69}
	if !bytes.Equal(b, want) || !sum.Right(b[:20]) {
		t.Errorf("% x", b)
	}
	other := bytes.Clone(b)
	other[0] = 0x55
	refuse(t, "first byte 55", other, api.ErrForm)
	refuse(t, "without its last one", b[:21], api.ErrShort)
	refuse(t, "with a byte more", append(bytes.Clone(b), 0), api.ErrForm)
}
