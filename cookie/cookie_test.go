package cookie_test

import (
	"math"
	"sync"
	"testing"

	"culvert/api"
	"culvert/cookie"
)

// key is the key of most of these tests.
const key = 0x0123456789abcdef

// who is the tuple of most of these tests: 10.0.0.2 port 4000 to 192.0.2.1 port
// 80, by the client's number 7.
func who() api.Tuple {
	return api.Tuple{Proto: api.Tcp, Src: 0x0a000002, Dst: 0xc0000201, SPort: 4000, DPort: 80}
}

// client is the client's number of most of these tests.
const client = 7

// chance makes numbers that look like chance, always the same ones.
type chance uint64

func (c *chance) next() uint64 {
	*c = *c*6364136223846793005 + 1442695040888963407
	return uint64(*c) >> 32
}

// long makes a number of 64 bits.
func (c *chance) long() uint64 { return c.next()<<32 | c.next() }

// tuple makes any tuple.
func (c *chance) tuple() api.Tuple {
	return api.Tuple{
		Proto: byte(c.next()), Src: uint32(c.next()), Dst: uint32(c.next()),
		SPort: uint16(c.next()), DPort: uint16(c.next()),
	}
}

// infos are all that a cookie may say.
func infos() []cookie.Info {
	var out []cookie.Info
	for class := range 8 {
		for _, sack := range []bool{false, true} {
			for scale := -1; scale <= 14; scale++ {
				out = append(out, cookie.Info{Class: class, Sack: sack, Scale: scale})
			}
		}
	}
	return out
}

// register is a second working of the chapter's words on the hash.
type register uint64

func (r *register) take(n uint64) {
	*r ^= register(n)
	*r ^= *r >> 30
	*r *= 0xbf58476d1ce4e5b9
	*r ^= *r >> 27
	*r *= 0x94d049bb133111eb
	*r ^= *r >> 31
}

func hash(key uint64, t api.Tuple, client uint32, epoch uint64) uint64 {
	r := register(key)
	r.take(uint64(t.Proto))
	r.take(uint64(t.Src)*(1<<32) + uint64(t.Dst))
	r.take(uint64(t.SPort)*(1<<16) + uint64(t.DPort))
	r.take(uint64(client))
	r.take(epoch)
	return uint64(r)
}

// made is a second working of the chapter's words on a cookie.
func made(key uint64, t api.Tuple, client uint32, tick uint64, x cookie.Info) uint32 {
	out := uint32(hash(key, t, client, tick/64) / (1 << 40))
	out = out*8 + uint32(x.Class)
	out *= 2
	if x.Sack {
		out++
	}
	if x.Scale == -1 {
		return out*16 + 15
	}
	return out*16 + uint32(x.Scale)
}

// make1 makes a cookie that may be.
func make1(t *testing.T, key uint64, to api.Tuple, client uint32, tick uint64, x cookie.Info) uint32 {
	t.Helper()
	c, e := cookie.Make(key, to, client, tick, x)
	if e != api.OK {
		t.Fatal(to, client, tick, x, e)
	}
	return c
}

// stale asks that a cookie is none.
func stale(t *testing.T, key uint64, to api.Tuple, client uint32, tick uint64, c uint32) {
	t.Helper()
	if x, e := cookie.Check(key, to, client, tick, c); e != api.ErrStale || x != (cookie.Info{}) {
		t.Errorf("%x at %d of %v: %v %v", c, tick, to, x, e)
	}
}

// says asks what a cookie says.
func says(t *testing.T, key uint64, to api.Tuple, client uint32, tick uint64, c uint32, want cookie.Info) {
	t.Helper()
	if x, e := cookie.Check(key, to, client, tick, c); e != api.OK || x != want {
		t.Errorf("%x at %d of %v: %v %v, not %v", c, tick, to, x, e, want)
	}
}

// P17.1
func TestClass(t *testing.T) {
	rows := []struct {
		mss   uint16
		class int
		is    bool
	}{
		{0, 0, false}, {1, 0, false}, {87, 0, false},
		{88, 0, true}, {89, 0, true}, {215, 0, true},
		{216, 1, true}, {535, 1, true},
		{536, 2, true}, {1023, 2, true},
		{1024, 3, true}, {1219, 3, true},
		{1220, 4, true}, {1359, 4, true},
		{1360, 5, true}, {1439, 5, true},
		{1440, 6, true}, {1459, 6, true},
		{1460, 7, true}, {1461, 7, true}, {8960, 7, true}, {32768, 7, true}, {65535, 7, true},
	}
	for _, r := range rows {
		if class, is := cookie.Class(r.mss); class != r.class || is != r.is {
			t.Error(r.mss, class, is)
		}
	}
}

// P17.1: of each greatest segment there is.
func TestClassAll(t *testing.T) {
	sizes := []int{88, 216, 536, 1024, 1220, 1360, 1440, 1460}
	for mss := range 1 << 16 {
		want, there := 0, false
		for i, n := range sizes {
			if n <= mss {
				want, there = i, true
			}
		}
		if class, is := cookie.Class(uint16(mss)); class != want || is != there {
			t.Fatal(mss, class, is)
		}
	}
}

// P17.1
func TestSize(t *testing.T) {
	for class, want := range []uint16{88, 216, 536, 1024, 1220, 1360, 1440, 1460} {
		if n, e := cookie.Size(class); n != want || e != api.OK {
			t.Error(class, n, e)
		}
	}
	for _, class := range []int{-1, 8, 9, -8, 256, 1 << 32, math.MinInt, math.MaxInt} {
		if n, e := cookie.Size(class); n != 0 || e != api.ErrArg {
			t.Error(class, n, e)
		}
	}
}

// P17.1: numbers that were worked out apart from the program.
func TestHash(t *testing.T) {
	all := api.Tuple{Proto: 255, Src: 0xffffffff, Dst: 0xffffffff, SPort: 65535, DPort: 65535}
	rows := []struct {
		key    uint64
		to     api.Tuple
		client uint32
		epoch  uint64
		want   uint64
	}{
		{0, api.Tuple{}, 0, 0, 0},
		{99, api.Tuple{Proto: api.Tcp, Src: 1, Dst: 2, SPort: 3, DPort: 443}, 12345, 0, 0xb286a32e009aca67},
		{key, who(), client, 1, 0x49f0879cbf8f350e},
		{math.MaxUint64, all, 0xffffffff, math.MaxUint64 / 64, 0x25fe580d54aeb0ef},
		{math.MaxUint64, all, 0xffffffff, math.MaxUint64, 0xe4622dac6586c360},
		{1, api.Tuple{Proto: api.Udp}, 0, 0, 0x9dc17efcab351518},
		{0, api.Tuple{Src: 1}, 0, 0, 0x3d423d6cf193cb79},
		{0, api.Tuple{Dst: 1}, 0, 0, 0x683b5fc0ca803dc3},
		{0, api.Tuple{SPort: 1}, 0, 0, 0x8f2f92b30b3d07a4},
		{0, api.Tuple{DPort: 1}, 0, 0, 0x71cac37448049ce4},
		{0, api.Tuple{}, 1, 0, 0x7ab40e090f363a7d},
		{0, api.Tuple{}, 0, 1, 0x5692161d100b05e5},
	}
	for _, r := range rows {
		if got := cookie.Hash(r.key, r.to, r.client, r.epoch); got != r.want {
			t.Errorf("%v: %x", r, got)
		}
	}
}

// P17.1: against a second working of the chapter's words.
func TestHashAny(t *testing.T) {
	c := chance(1)
	for range 5000 {
		key, to, client, epoch := c.long(), c.tuple(), uint32(c.next()), c.long()
		if got, want := cookie.Hash(key, to, client, epoch), hash(key, to, client, epoch); got != want {
			t.Fatalf("%x %v %d %d: %x, not %x", key, to, client, epoch, got, want)
		}
	}
}

// P17.2: numbers that were worked out apart from the program.
func TestMake(t *testing.T) {
	rows := []struct {
		tick uint64
		x    cookie.Info
		want uint32
	}{
		{0, cookie.Info{Class: 7, Sack: true, Scale: 7}, 0xb74ecbf7},
		{63, cookie.Info{Class: 2, Scale: -1}, 0xb74ecb4f},
		{64, cookie.Info{}, 0x49f08700},
		{127, cookie.Info{Class: 7, Sack: true, Scale: -1}, 0x49f087ff},
		{128, cookie.Info{Class: 4, Scale: 14}, 0xea1ac48e},
		{api.MaxTime, cookie.Info{Class: 1, Sack: true}, 0x7a68bf30},
		{math.MaxUint64, cookie.Info{Class: 3, Scale: 10}, 0xe1b0df6a},
	}
	for _, r := range rows {
		if got, e := cookie.Make(key, who(), client, r.tick, r.x); got != r.want || e != api.OK {
			t.Errorf("%v: %x %v", r, got, e)
		}
	}
	if cookie.Epoch != 64 {
		t.Error(cookie.Epoch)
	}
}

// P17.2: against a second working of the chapter's words.
func TestMakeAny(t *testing.T) {
	c := chance(2)
	for range 20 {
		for _, x := range infos() {
			key, to, client, tick := c.long(), c.tuple(), uint32(c.next()), c.long()>>(c.next()%64)
			if got, want := make1(t, key, to, client, tick, x), made(key, to, client, tick, x); got != want {
				t.Fatalf("%x %v %d %d %v: %x, not %x", key, to, client, tick, x, got, want)
			}
		}
	}
}

// P17.2
func TestMakeWrong(t *testing.T) {
	var rows []cookie.Info
	for _, n := range []int{-1, 8, 16, -8, 256, 1 << 32, math.MinInt, math.MaxInt} {
		rows = append(rows, cookie.Info{Class: n}, cookie.Info{Class: n, Sack: true, Scale: -1})
	}
	for _, n := range []int{-2, 15, 16, -16, 256, 1 << 32, math.MinInt, math.MaxInt} {
		rows = append(rows, cookie.Info{Scale: n}, cookie.Info{Class: 7, Sack: true, Scale: n}, cookie.Info{Class: 8, Scale: n})
	}
	for _, x := range rows {
		if c, e := cookie.Make(key, who(), client, 100, x); c != 0 || e != api.ErrArg {
			t.Errorf("%v: %x %v", x, c, e)
		}
	}
}

// P17.3: the tick's epoch, and the one ahead of it, and no other one.
func TestCheck(t *testing.T) {
	x := cookie.Info{Class: 5, Sack: true, Scale: 3}
	for _, epoch := range []uint64{0, 1, 2, 3, 1000, api.MaxTime / 64, math.MaxUint64/64 - 1, math.MaxUint64 / 64} {
		for _, within := range []uint64{0, 1, 62, 63} {
			c := make1(t, key, who(), client, epoch*64+within, x)
			for _, at := range []uint64{0, 1, 63} {
				says(t, key, who(), client, epoch*64+at, c, x)
				if epoch < math.MaxUint64/64 {
					says(t, key, who(), client, (epoch+1)*64+at, c, x)
				}
				if epoch < math.MaxUint64/64-1 {
					stale(t, key, who(), client, (epoch+2)*64+at, c)
				}
				if epoch > 0 {
					stale(t, key, who(), client, (epoch-1)*64+at, c)
				}
			}
		}
	}
}

// P17.3: epoch 0 has none ahead of it, neither the last one there is, nor one
// that less than 0 would be.
func TestCheckFirst(t *testing.T) {
	for _, tick := range []uint64{0, 1, 63} {
		stale(t, key, who(), client, tick, make1(t, key, who(), client, math.MaxUint64, cookie.Info{}))
		for _, epoch := range []uint64{math.MaxUint64, 1<<58 - 1, 1 << 58} {
			stale(t, key, who(), client, tick, uint32(hash(key, who(), client, epoch)>>32))
		}
		says(t, key, who(), client, tick, make1(t, key, who(), client, 0, cookie.Info{}), cookie.Info{})
	}
}

// P17.3: a cookie of somebody else is none.
func TestCheckOther(t *testing.T) {
	x := cookie.Info{Class: 7, Sack: true, Scale: 7}
	c := make1(t, key, who(), client, 200, x)
	others := []func(*api.Tuple){
		func(to *api.Tuple) { to.Proto = api.Udp },
		func(to *api.Tuple) { to.Src++ },
		func(to *api.Tuple) { to.Dst++ },
		func(to *api.Tuple) { to.SPort++ },
		func(to *api.Tuple) { to.DPort++ },
		func(to *api.Tuple) { to.Src, to.Dst = to.Dst, to.Src },
		func(to *api.Tuple) { to.SPort, to.DPort = to.DPort, to.SPort },
	}
	for _, change := range others {
		to := who()
		change(&to)
		stale(t, key, to, client, 200, c)
	}
	stale(t, key+1, who(), client, 200, c)
	stale(t, key^1<<63, who(), client, 200, c)
	stale(t, key, who(), client+1, 200, c)
	stale(t, key, who(), client^1<<31, 200, c)
	stale(t, key, who(), client, 200, 0)
	stale(t, key, who(), client, 200, 0xffffffff)
	says(t, key, who(), client, 200, c, x)
}

// P17.4
func TestBack(t *testing.T) {
	c := chance(4)
	for _, tick := range []uint64{0, 1, 31, 63, 64, 65, 127, 128, 1000, api.MaxTime - 1, api.MaxTime} {
		for _, x := range infos() {
			key, to, client := c.long(), c.tuple(), uint32(c.next())
			got := make1(t, key, to, client, tick, x)
			for _, late := range []uint64{0, 1, 2, 31, 32, 62, 63, 64} {
				says(t, key, to, client, tick+late, got, x)
			}
		}
	}
}

// P17.5: what it says hangs on the lowest eight bits alone.
func TestLowest(t *testing.T) {
	c := chance(5)
	said := map[cookie.Info]int{}
	for low := range uint32(256) {
		first := cookie.Info{}
		for i := range 8 {
			key, to, client, tick := c.long(), c.tuple(), uint32(c.next()), c.next()
			x, e := cookie.Check(key, to, client, tick, made(key, to, client, tick, cookie.Info{})|low)
			if e != api.OK || i > 0 && x != first {
				t.Fatal(low, x, first, e)
			}
			first = x
			// It may be, and is said by these bits.
			if got := make1(t, key, to, client, tick, x); got&0xff != low {
				t.Fatalf("%x: %v says %x", low, x, got)
			}
		}
		said[first]++
	}
	if len(said) != 256 {
		t.Error(len(said))
	}
	for _, x := range infos() {
		if said[x] != 1 {
			t.Error(x, said[x])
		}
	}
}

// P17.5: whether it is one hangs on the highest 24 bits alone.
func TestHighest(t *testing.T) {
	c := chance(6)
	for range 20 {
		key, to, client, tick := c.long(), c.tuple(), uint32(c.next()), c.next()
		good := made(key, to, client, tick, cookie.Info{})
		for low := range uint32(256) {
			if _, e := cookie.Check(key, to, client, tick, good|low); e != api.OK {
				t.Fatal(low, e)
			}
			for bit := 8; bit < 32; bit++ {
				stale(t, key, to, client, tick, (good|low)^1<<bit)
			}
		}
	}
}

// P17.6
func TestClassSize(t *testing.T) {
	for class := range 8 {
		n, e := cookie.Size(class)
		if e != api.OK {
			t.Fatal(class, e)
		}
		if got, is := cookie.Class(n); got != class || !is {
			t.Error(class, n, got, is)
		}
		// Of one less than the least number there is none.
		if got, is := cookie.Class(n - 1); is != (class > 0) || is && got != class-1 {
			t.Error(class, n-1, got, is)
		}
	}
}

// P17.1, P17.2: the chapter's examples.
func TestExamples(t *testing.T) {
	for mss, want := range map[uint16]int{1460: 7, 1459: 6, 536: 2} {
		if class, is := cookie.Class(mss); class != want || !is {
			t.Error(mss, class, is)
		}
	}
	if class, is := cookie.Class(87); class != 0 || is {
		t.Error(class, is)
	}
	c := make1(t, key, who(), client, 5, cookie.Info{Class: 7, Sack: true, Scale: 7})
	if c&0xff != 0xf7 {
		t.Errorf("%x", c)
	}
	c = make1(t, key, who(), client, 5, cookie.Info{Class: 2, Scale: -1})
	if c&0xff != 0x4f {
		t.Errorf("%x", c)
	}
}

// R7: what is answered hangs on what was called alone.
func TestAtTheSameTime(t *testing.T) {
	var wg sync.WaitGroup
	for i := range 8 {
		wg.Go(func() {
			c := chance(i)
			for _, x := range infos() {
				key, to, client, tick := c.long(), c.tuple(), uint32(c.next()), c.next()
				got, e := cookie.Make(key, to, client, tick, x)
				back, f := cookie.Check(key, to, client, tick, got)
				if e != api.OK || f != api.OK || back != x || got != made(key, to, client, tick, x) {
					t.Error(x, back, e, f)
				}
			}
		})
	}
	wg.Wait()
}
