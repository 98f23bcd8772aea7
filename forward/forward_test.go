package forward_test

import (
	"slices"
	"testing"

	"culvert/api"
	"culvert/forward"
	"culvert/tuple"
)

// outer is the outer address of these tests.
const outer = 0xc6336401

// chance makes numbers that look like chance, always the same ones.
type chance uint64

func (c *chance) next() uint64 {
	*c = *c*6364136223846793005 + 1442695040888963407
	return uint64(*c) >> 32
}

// below makes a number below n.
func (c *chance) below(n int) int {
	return int(c.next() % uint64(n))
}

// config is 10.0.0.0/8, with a pool from 1000 to 2000.
func config() api.Config {
	return api.Config{Inside: 0x0a000000, Mask: 0xff000000, Outer: outer, Low: 1000, High: 2000}
}

// web is a forward that may be.
func web() api.Forward {
	return api.Forward{Proto: api.Tcp, Port: 80, Addr: 0x0a000005, To: 8080}
}

// some are forwards that may be, in the order of All; the 2nd and 3rd lead to one
// place, and so do the 1st and the 5th but for their Proto.
func some() []api.Forward {
	return []api.Forward{
		{Proto: api.Tcp, Port: 53, Addr: 0x0a000003, To: 53},
		{Proto: api.Tcp, Port: 80, Addr: 0x0a000005, To: 8080},
		{Proto: api.Tcp, Port: 443, Addr: 0x0a000005, To: 8080},
		{Proto: api.Tcp, Port: 8080, Addr: 0x0a000006, To: 8080},
		{Proto: api.Udp, Port: 53, Addr: 0x0a000003, To: 53},
		{Proto: api.Udp, Port: 80, Addr: 0x0a000005, To: 53},
		{Proto: api.Udp, Port: 65535, Addr: 0x0affffff, To: 65535},
	}
}

// many are n forwards that may be, in the order of All.
func many(n int) []api.Forward {
	var l []api.Forward
	for i := range n {
		l = append(l, api.Forward{Proto: api.Udp, Port: uint16(i + 1), Addr: 0x0a000000 + uint32(i), To: uint16(i + 1)})
	}
	return l
}

// with is a list with one more forward.
func with(l []api.Forward, f api.Forward) []api.Forward {
	return append(slices.Clone(l), f)
}

// without is a list without the i-th one.
func without(l []api.Forward, i int) []api.Forward {
	return slices.Delete(slices.Clone(l), i, i+1)
}

// made makes the table of forwards that may be.
func made(t *testing.T, c api.Config, l []api.Forward) *forward.Table {
	t.Helper()
	x, e := forward.New(c, l)
	if e != api.OK || x == nil {
		t.Fatalf("New(%v) = %v, %d", l, x, e)
	}
	return x
}

// may asks whether a list may be: of May and of New.
func may(t *testing.T, c api.Config, l []api.Forward, want bool) {
	t.Helper()
	if got := forward.May(c, l); got != want {
		t.Errorf("May(%v) = %v, want %v", l, got, want)
	}
	x, e := forward.New(c, l)
	if want && (x == nil || e != api.OK) || !want && (x != nil || e != api.ErrArg) {
		t.Errorf("New(%v) = %v, %d; may it be: %v", l, x, e, want)
	}
}

// finds holds what Find tells against a forward, of which the one of noughts is
// none.
func finds(t *testing.T, x *forward.Table, proto byte, port uint16, want api.Forward) {
	t.Helper()
	if got, is := x.Find(proto, port); got != want || is != (want != api.Forward{}) {
		t.Errorf("Find(%d, %d) = %v, %v; want %v", proto, port, got, is, want)
	}
}

// holds asks whether a table has just these forwards, which are in the order of
// All.
func holds(t *testing.T, x *forward.Table, l []api.Forward) {
	t.Helper()
	if got := x.All(); !slices.Equal(got, l) {
		t.Errorf("All() = %v, want %v", got, l)
	}
	for _, f := range l {
		finds(t, x, f.Proto, f.Port, f)
	}
}

// goesIn holds what Inward tells against a tuple.
func goesIn(t *testing.T, x *forward.Table, of, want api.Tuple, is bool) {
	t.Helper()
	if got, there := x.Inward(of); got != want || there != is {
		t.Errorf("Inward(%v) = %v, %v; want %v, %v", of, got, there, want, is)
	}
}

// goesOut holds what Outward tells, of an outer address, against a tuple.
func goesOut(t *testing.T, x *forward.Table, of api.Tuple, addr uint32, want api.Tuple, is bool) {
	t.Helper()
	if got, there := x.Outward(of, addr); got != want || there != is {
		t.Errorf("Outward(%v, %x) = %v, %v; want %v, %v", of, addr, got, there, want, is)
	}
}

// knowsNone asks whether nothing tells that there is any forward.
func knowsNone(t *testing.T, x *forward.Table) {
	t.Helper()
	holds(t, x, nil)
	for _, f := range append(some(), api.Forward{}) {
		finds(t, x, f.Proto, f.Port, api.Forward{})
		in := api.Tuple{Proto: f.Proto, Src: 9, Dst: outer, SPort: 4000, DPort: f.Port}
		goesIn(t, x, in, in, false)
		out := api.Tuple{Proto: f.Proto, Src: f.Addr, Dst: 9, SPort: f.To, DPort: 4000}
		goesOut(t, x, out, outer, out, false)
	}
}

func TestExamples(t *testing.T) {
	both := []api.Forward{web(), {Proto: api.Udp, Port: 80, Addr: 0x0a000005, To: 53}}
	may(t, config(), both, true)
	holds(t, made(t, config(), both), both)
	for _, f := range []api.Forward{
		{Proto: api.Tcp, Port: 1500, Addr: 0x0a000005, To: 80},
		{Proto: api.Icmp, Port: 80, Addr: 0x0a000005, To: 80},
		{Proto: api.Tcp, Port: 80, Addr: 0x0b000005, To: 80},
	} {
		may(t, config(), []api.Forward{f}, false)
	}
}

func TestInside(t *testing.T) { // P14.1
	for _, one := range []struct {
		inside, mask, addr uint32
		want               bool
	}{
		{0x0a000000, 0xff000000, 0x0a000000, true},
		{0x0a000000, 0xff000000, 0x0affffff, true},
		{0x0a000000, 0xff000000, 0x09ffffff, false},
		{0x0a000000, 0xff000000, 0x0b000000, false},
		{0x0a000000, 0xff000000, 0, false},
		{0x0a000000, 0xff000000, 0xffffffff, false},
		{0x0a000001, 0xff000000, 0x0a000002, true}, // bits that Mask has not do not count
		{0x0a000001, 0xff000000, 0x0b000001, false},
		{0xc0a80000, 0xffff0000, 0xc0a8ffff, true},
		{0xc0a80000, 0xffff0000, 0xc0a7ffff, false},
		{0x0a000007, 0xffffffff, 0x0a000007, true},
		{0x0a000007, 0xffffffff, 0x0a000006, false},
		{0x0a000007, 0, 0xc0000201, true}, // no bit counts
		{0, 0, 0, true},
		{0, 0xffffffff, 0, true},
		{0, 0xffffffff, 1, false},
		{0x0a000100, 0xff00ff00, 0x0abb01cc, true}, // a Mask with holes
		{0x0a000100, 0xff00ff00, 0x0abb02cc, false},
	} {
		c := api.Config{Inside: one.inside, Mask: one.mask}
		if got := forward.Inside(c, one.addr); got != one.want {
			t.Errorf("Inside(%x of %x, %x) = %v", one.mask, one.inside, one.addr, got)
		}
	}
}

func TestInsideEachBit(t *testing.T) { // P14.1
	for bit := range 32 {
		for _, mask := range []uint32{0xff000000, 0xffff0000, 0xfffffff0, 0x0f0f0f0f, 0, 0xffffffff} {
			c := api.Config{Inside: 0xc0a85a3c, Mask: mask}
			want := mask>>bit&1 == 0
			if got := forward.Inside(c, c.Inside^1<<bit); got != want {
				t.Errorf("bit %d, of Mask %x: %v", bit, mask, got)
			}
		}
	}
}

func TestMay(t *testing.T) { // P14.1
	may(t, config(), nil, true)
	may(t, config(), []api.Forward{}, true)
	may(t, config(), []api.Forward{web()}, true)
	may(t, config(), some(), true)
	back := some()
	slices.Reverse(back)
	may(t, config(), back, true)
	may(t, config(), []api.Forward{{}}, false)
}

func TestMayProto(t *testing.T) { // P14.1
	for proto := range 256 {
		f := web()
		f.Proto = byte(proto)
		may(t, config(), []api.Forward{f}, proto == 6 || proto == 17)
	}
}

func TestMayPort(t *testing.T) { // P14.1
	for port := range 1 << 16 {
		f := web()
		f.Port = uint16(port)
		want := port != 0 && (port < 1000 || port > 2000)
		if got := forward.May(config(), []api.Forward{f}); got != want {
			t.Errorf("port %d: %v", port, got)
		}
	}
}

func TestMayPool(t *testing.T) { // P14.1
	for _, one := range []struct {
		low, high, port uint16
		want            bool
	}{
		{1, 65535, 1, false}, {1, 65535, 80, false}, {1, 65535, 65535, false},
		{80, 80, 80, false}, {80, 80, 79, true}, {80, 80, 81, true},
		{65535, 65535, 65535, false}, {65535, 65535, 65534, true},
		{0, 0, 0, false}, {0, 0, 1, true}, {2, 3, 0, false}, {2, 3, 1, true},
		{2000, 1000, 1500, true}, {2000, 1000, 1000, true}, {2000, 1000, 2000, true}, // none lies there
	} {
		c := config()
		c.Low, c.High = one.low, one.high
		f := web()
		f.Port = one.port
		may(t, c, []api.Forward{f}, one.want)
	}
}

func TestMayAddr(t *testing.T) { // P14.1
	for addr, want := range map[uint32]bool{
		0x0a000000: true, 0x0a000001: true, 0x0affffff: true,
		0x09ffffff: false, 0x0b000000: false, 0: false, outer: false, 0xffffffff: false,
	} {
		f := web()
		f.Addr = addr
		may(t, config(), []api.Forward{f}, want)
	}
	f := web()
	f.Addr = 0
	may(t, api.Config{Low: 1000, High: 2000}, []api.Forward{f}, true) // all is inside
}

func TestMayTo(t *testing.T) { // P14.1
	for to, want := range map[uint16]bool{0: false, 1: true, 80: true, 1000: true, 1500: true, 65535: true} {
		f := web()
		f.To = to
		may(t, config(), []api.Forward{f}, want)
	}
}

func TestMayOneProtoAndPort(t *testing.T) { // P14.1
	same, elsewhere := web(), web()
	elsewhere.Addr, elsewhere.To = 0x0a000006, 81
	other, otherPort := web(), web()
	other.Proto = api.Udp
	otherPort.Port = 81
	may(t, config(), []api.Forward{web(), same}, false)
	may(t, config(), []api.Forward{web(), elsewhere}, false)
	may(t, config(), []api.Forward{elsewhere, web()}, false)
	may(t, config(), []api.Forward{web(), other}, true)
	may(t, config(), []api.Forward{web(), otherPort}, true) // to one place
	for i := range some() {
		for at := range len(some()) + 1 { // the same Proto and Port anywhere
			twin := some()[i]
			twin.To++
			twin.To |= 1
			may(t, config(), slices.Insert(some(), at, twin), false)
		}
	}
}

func TestMayEachPlace(t *testing.T) { // P14.1: one that may not be, anywhere
	for n, wrong := range []api.Forward{
		{},
		{Proto: api.Icmp, Port: 81, Addr: 0x0a000005, To: 80},
		{Proto: api.Tcp, Port: 0, Addr: 0x0a000005, To: 80},
		{Proto: api.Tcp, Port: 1000, Addr: 0x0a000005, To: 80},
		{Proto: api.Udp, Port: 2000, Addr: 0x0a000005, To: 80},
		{Proto: api.Tcp, Port: 81, Addr: 0x0b000005, To: 80},
		{Proto: api.Udp, Port: 81, Addr: outer, To: 80},
		{Proto: api.Tcp, Port: 81, Addr: 0x0a000005, To: 0},
	} {
		for at := range len(some()) + 1 {
			l := slices.Insert(some(), at, wrong)
			if forward.May(config(), l) {
				t.Errorf("wrong %d at %d may be", n, at)
			}
		}
	}
}

func TestMayMost(t *testing.T) { // P14.1
	if forward.Most != 64 {
		t.Errorf("Most = %d", forward.Most)
	}
	for n, want := range map[int]bool{0: true, 1: true, 63: true, 64: true, 65: false, 66: false, 128: false, 320: false, 999: false} {
		may(t, config(), many(n), want)
	}
	holds(t, made(t, config(), many(forward.Most)), many(forward.Most))
	may(t, config(), with(many(64), web()), false) // Most of all Protos together
	twice := append(many(33), many(33)...)
	may(t, config(), twice, false)
}

func TestAll(t *testing.T) { // P14.1
	holds(t, made(t, config(), nil), nil)
	holds(t, made(t, config(), some()), some())
	c := chance(1)
	for range 200 { // in whatever order
		l := some()
		for i := range l {
			at := i + c.below(len(l)-i)
			l[i], l[at] = l[at], l[i]
		}
		holds(t, made(t, config(), l), some())
	}
	first := api.Forward{Proto: api.Tcp, Port: 65535, Addr: 0x0a000009, To: 9} // Proto goes ahead of Port, and of all else
	last := api.Forward{Proto: api.Udp, Port: 1, Addr: 0x0a000001, To: 1}
	holds(t, made(t, config(), []api.Forward{last, first}), []api.Forward{first, last})
	low := api.Forward{Proto: api.Tcp, Port: 255, Addr: 0x0a000009, To: 9} // Port goes ahead of Addr and To
	high := api.Forward{Proto: api.Tcp, Port: 256, Addr: 0x0a000001, To: 1}
	holds(t, made(t, config(), []api.Forward{high, low}), []api.Forward{low, high})
}

func TestFind(t *testing.T) { // P14.2
	x := made(t, config(), some())
	for port := range 1 << 16 {
		for _, proto := range []byte{0, api.Icmp, api.Tcp, api.Udp, 255} {
			var want api.Forward
			for _, f := range some() {
				if f.Proto == proto && f.Port == uint16(port) {
					want = f
				}
			}
			finds(t, x, proto, uint16(port), want)
		}
	}
	for proto := range 256 {
		if _, is := x.Find(byte(proto), 53); is != (proto == 6 || proto == 17) {
			t.Errorf("Find(%d, 53): %v", proto, is)
		}
	}
	finds(t, x, api.Tcp, 65535, api.Forward{}) // of Udp alone
	finds(t, x, api.Udp, 443, api.Forward{})   // of Tcp alone
}

func TestInward(t *testing.T) { // P14.3
	x := made(t, config(), some())
	for _, f := range some() {
		for _, dst := range []uint32{0, outer, f.Addr, 0xffffffff} { // whatever its Dst
			of := api.Tuple{Proto: f.Proto, Src: 0x01020304, Dst: dst, SPort: 53, DPort: f.Port}
			want := api.Tuple{Proto: f.Proto, Src: 0x01020304, Dst: f.Addr, SPort: 53, DPort: f.To}
			goesIn(t, x, of, want, true)
		}
	}
	zero := api.Tuple{Proto: api.Tcp, DPort: 80}
	goesIn(t, x, zero, api.Tuple{Proto: api.Tcp, Dst: 0x0a000005, DPort: 8080}, true)
}

func TestInwardNone(t *testing.T) { // P14.3: x and false
	x := made(t, config(), some())
	for _, of := range []api.Tuple{
		{},
		{Proto: api.Tcp, Src: 1, Dst: outer, SPort: 80, DPort: 81},
		{Proto: api.Udp, Src: 1, Dst: outer, SPort: 80, DPort: 443},
		{Proto: api.Tcp, Src: 1, Dst: outer, SPort: 80, DPort: 65535},
		{Proto: api.Icmp, Src: 1, Dst: outer, SPort: 80, DPort: 80},
		{Proto: 0, Src: 1, Dst: outer, SPort: 80, DPort: 80},
		{Proto: api.Udp, Src: 1, Dst: 0x0a000005, SPort: 80, DPort: 8080}, // To is no Port of one
	} {
		goesIn(t, x, of, of, false)
	}
}

func TestOutward(t *testing.T) { // P14.3
	x := made(t, config(), some())
	for _, one := range []struct {
		proto     byte
		addr      uint32
		to, first uint16
	}{
		{api.Tcp, 0x0a000003, 53, 53},
		{api.Tcp, 0x0a000005, 8080, 80}, // 443 leads there, too, but is not the first
		{api.Tcp, 0x0a000006, 8080, 8080},
		{api.Udp, 0x0a000003, 53, 53},
		{api.Udp, 0x0a000005, 53, 80},
		{api.Udp, 0x0affffff, 65535, 65535},
	} {
		for _, addr := range []uint32{outer, 0, 0x0a000005, 0xffffffff} { // whatever outer is
			of := api.Tuple{Proto: one.proto, Src: one.addr, Dst: 0x01020304, SPort: one.to, DPort: 4000}
			want := api.Tuple{Proto: one.proto, Src: addr, Dst: 0x01020304, SPort: one.first, DPort: 4000}
			goesOut(t, x, of, addr, want, true)
		}
	}
}

func TestOutwardFirst(t *testing.T) { // P14.3: the first one as All has them, not as New was told
	l := many(forward.Most)
	for i := range l {
		l[i].Addr, l[i].To = 0x0a000005, 80
	}
	slices.Reverse(l)
	of := api.Tuple{Proto: api.Udp, Src: 0x0a000005, Dst: 9, SPort: 80, DPort: 7}
	for left := l; len(left) > 0; left = left[:len(left)-1] {
		x := made(t, config(), left)
		least := left[len(left)-1].Port
		goesOut(t, x, of, outer, api.Tuple{Proto: api.Udp, Src: outer, Dst: 9, SPort: least, DPort: 7}, true)
	}
}

func TestOutwardNone(t *testing.T) { // P14.3: x and false
	x := made(t, config(), some())
	for _, of := range []api.Tuple{
		{},
		{Proto: api.Tcp, Src: 0x0a000004, Dst: 1, SPort: 8080, DPort: 1},
		{Proto: api.Tcp, Src: 0x0a000005, Dst: 1, SPort: 80, DPort: 1}, // Port is not where one leads
		{Proto: api.Tcp, Src: 0x0a000003, Dst: 1, SPort: 8080, DPort: 1},
		{Proto: api.Udp, Src: 0x0a000005, Dst: 1, SPort: 8080, DPort: 1},
		{Proto: api.Icmp, Src: 0x0a000003, Dst: 1, SPort: 53, DPort: 53},
		{Proto: api.Tcp, Src: outer, Dst: 1, SPort: 80, DPort: 1},
		{Proto: api.Tcp, Src: 1, Dst: 0x0a000005, SPort: 1, DPort: 8080}, // the other way round
	} {
		goesOut(t, x, of, outer, of, false)
		goesOut(t, x, of, 0, of, false)
	}
}

func TestOutwardEachBit(t *testing.T) { // P14.3: a place unlike in a single bit is another one
	x := made(t, config(), []api.Forward{web()})
	of := api.Tuple{Proto: api.Tcp, Src: 0x0a000005, Dst: 9, SPort: 8080, DPort: 7}
	goesOut(t, x, of, outer, api.Tuple{Proto: api.Tcp, Src: outer, Dst: 9, SPort: 80, DPort: 7}, true)
	for bit := range 32 {
		other := of
		other.Src ^= 1 << bit
		goesOut(t, x, other, outer, other, false)
	}
	for bit := range 16 {
		other := of
		other.SPort ^= 1 << bit
		goesOut(t, x, other, outer, other, false)
		in := api.Tuple{Proto: api.Tcp, Src: 9, Dst: outer, SPort: 7, DPort: 80 ^ 1<<bit}
		goesIn(t, x, in, in, false)
	}
	for bit := range 8 {
		other := of
		other.Proto ^= 1 << bit
		goesOut(t, x, other, outer, other, false)
		in := api.Tuple{Proto: api.Tcp ^ 1<<bit, Src: 9, Dst: outer, SPort: 7, DPort: 80}
		goesIn(t, x, in, in, false)
	}
}

func TestInAndOut(t *testing.T) { // P14.4
	x := made(t, config(), some())
	for n, f := range some() {
		of := api.Tuple{Proto: f.Proto, Src: 0x01020304, Dst: outer, SPort: 4000, DPort: f.Port}
		in, is := x.Inward(of)
		if !is {
			t.Fatal(f)
		}
		want := tuple.Reverse(of)
		if n == 2 { // another one leads to the same place
			want.SPort = 80
		}
		goesOut(t, x, tuple.Reverse(in), outer, want, true)
	}
}

func TestTakenAway(t *testing.T) { // P14.5
	for _, l := range [][]api.Forward{some(), many(forward.Most)} {
		for i, gone := range l {
			left := without(l, i)
			may(t, config(), left, true)
			x := made(t, config(), left)
			holds(t, x, left)
			finds(t, x, gone.Proto, gone.Port, api.Forward{})
			in := api.Tuple{Proto: gone.Proto, Src: 9, Dst: outer, SPort: 7, DPort: gone.Port}
			goesIn(t, x, in, in, false)
		}
	}
	x := made(t, config(), without(some(), 1)) // then the other one that leads there is the first
	of := api.Tuple{Proto: api.Tcp, Src: 0x0a000005, Dst: 9, SPort: 8080, DPort: 7}
	goesOut(t, x, of, outer, api.Tuple{Proto: api.Tcp, Src: outer, Dst: 9, SPort: 443, DPort: 7}, true)
}

func TestNoTable(t *testing.T) { // P14.1, P14.2, R1
	var none *forward.Table
	knowsNone(t, none)
	knowsNone(t, new(forward.Table))
	knowsNone(t, made(t, config(), nil))
	knowsNone(t, made(t, config(), []api.Forward{}))
	knowsNone(t, made(t, api.Config{}, nil))
}

func TestWrongLeavesNone(t *testing.T) { // R2
	x, e := forward.New(config(), with(some(), some()[0]))
	if x != nil || e != api.ErrArg {
		t.Fatal(x, e)
	}
	knowsNone(t, x)
}

func TestNotKept(t *testing.T) { // R3: what is handed in is only read, and not kept
	l := some()
	slices.Reverse(l)
	before := slices.Clone(l)
	may(t, config(), l, true)
	x := made(t, config(), l)
	if !slices.Equal(l, before) {
		t.Errorf("the list is %v now", l)
	}
	for i := range l {
		l[i] = api.Forward{Proto: api.Tcp, Port: 7, Addr: 1, To: 1}
	}
	holds(t, x, some())
	room := some() // its list has room behind its end
	room = slices.Grow(room, 8)
	made(t, config(), room[:3])
	if !slices.Equal(room, some()) {
		t.Errorf("the list is %v now", room)
	}
}

func TestNewMemory(t *testing.T) { // R3: All is the caller's
	x := made(t, config(), some())
	all := x.All()
	for i := range all {
		all[i] = api.Forward{}
	}
	_ = append(all[:1], api.Forward{Proto: 1})
	holds(t, x, some())
	other := made(t, config(), []api.Forward{web()})
	holds(t, other, []api.Forward{web()})
	holds(t, x, some())
}

func TestConfigCounts(t *testing.T) { // P14.1: of a configuration nothing else counts
	c := config()
	c.Outer, c.Watch, c.Forwards = 0, []uint16{80}, []api.Forward{web()}
	c.Rules = []api.Rule{{}}
	may(t, c, some(), true)
	c.Inside, c.Mask = 0xc0a80000, 0xffff0000
	may(t, c, some(), false)
	may(t, c, nil, true)
}

// plain is forwards, as the chapter's words tell them.
type plain []api.Forward

// mayBe tells whether they may be.
func (p plain) mayBe(c api.Config) bool {
	if len(p) > 64 {
		return false
	}
	for i, f := range p {
		for bit := range 32 {
			if c.Mask>>bit&1 == 1 && f.Addr>>bit&1 != c.Inside>>bit&1 {
				return false
			}
		}
		if f.Proto != 6 && f.Proto != 17 || f.Port == 0 || f.To == 0 {
			return false
		}
		for port := int(c.Low); port <= int(c.High); port++ {
			if int(f.Port) == port {
				return false
			}
		}
		for _, other := range p[:i] {
			if other.Proto == f.Proto && other.Port == f.Port {
				return false
			}
		}
	}
	return true
}

// all tells them in their order.
func (p plain) all() []api.Forward {
	var out []api.Forward
	for _, proto := range []byte{api.Tcp, api.Udp} {
		for port := range 1 << 8 { // those of random have no other ones
			for _, f := range p {
				if f.Proto == proto && int(f.Port) == port {
					out = append(out, f)
				}
			}
		}
	}
	return out
}

// random makes forwards of few values, most of which may be.
func (c *chance) random() plain {
	var p plain
	for range c.below(24) {
		f := api.Forward{
			Proto: []byte{api.Tcp, api.Udp}[c.below(2)], Port: uint16(c.below(200) + 1),
			Addr: 0x0a000000 + uint32(c.below(3)), To: uint16(c.below(3) + 1),
		}
		switch c.below(120) {
		case 0:
			f.Proto = byte(c.next())
		case 1:
			f.Port = uint16(c.below(2)) * 250
		case 2:
			f.Addr ^= 1 << c.below(32)
		case 3:
			f.To = 0
		}
		p = append(p, f)
	}
	return p
}

// anyTuple makes a tuple that comes from, or goes to, where some of random lead.
func (c *chance) anyTuple() api.Tuple {
	return api.Tuple{
		Proto: []byte{api.Tcp, api.Udp, api.Icmp}[c.below(3)],
		Src:   0x0a000000 + uint32(c.below(4)), Dst: 0x0a000000 + uint32(c.below(4)),
		SPort: uint16(c.below(5)), DPort: uint16(c.below(202)),
	}
}

// asks holds what a table tells of a tuple against what the words tell.
func asks(t *testing.T, x *forward.Table, all []api.Forward, of api.Tuple) {
	t.Helper()
	in, found, out, answered := of, api.Forward{}, of, false
	for _, f := range all {
		if f.Proto == of.Proto && f.Port == of.DPort {
			found = f
			in.Dst, in.DPort = f.Addr, f.To
		}
		if f.Proto == of.Proto && f.Addr == of.Src && f.To == of.SPort && !answered {
			answered = true
			out.Src, out.SPort = outer, f.Port
		}
	}
	finds(t, x, of.Proto, of.DPort, found)
	goesIn(t, x, of, in, found != api.Forward{})
	goesOut(t, x, of, outer, out, answered)
}

func TestAnything(t *testing.T) { // P14.1 to P14.5, held against the words
	c := chance(14)
	could := 0
	for range 3000 {
		setup := api.Config{Inside: 0x0a000000, Mask: 0xfffffffc, Low: 240, High: 255}
		if c.below(4) == 0 {
			setup.Low = uint16(c.below(256))
			setup.High = setup.Low + uint16(c.below(4))
		}
		p := c.random()
		may(t, setup, p, p.mayBe(setup))
		x, e := forward.New(setup, p)
		if e != api.OK {
			continue
		}
		could++
		all := p.all()
		holds(t, x, all)
		for range 20 {
			asks(t, x, all, c.anyTuple())
		}
		for i := range p {
			may(t, setup, without(p, i), true)
		}
		if t.Failed() {
			t.Fatalf("forwards %v", p)
		}
	}
	if could < 300 || could > 2700 {
		t.Errorf("%d of 3000 may be", could)
	}
}
