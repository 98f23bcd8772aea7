package pool_test

import (
	"slices"
	"testing"

	"culvert/api"
	"culvert/pool"
)

// chance makes numbers that look like chance, always the same ones.
type chance uint64

func (c *chance) next() uint64 {
	*c = *c*6364136223846793005 + 1442695040888963407
	return uint64(*c) >> 32
}

// below makes a number below n.
func (c *chance) below(n int) int {
	return int(c.next() % uint64(n))
}

// made makes a pool that may be.
func made(t *testing.T, low, high uint16, rest uint64) *pool.Pool {
	t.Helper()
	p, e := pool.New(low, high, rest)
	if e != api.OK || p == nil {
		t.Fatalf("New(%d, %d, %d) = %v, %d", low, high, rest, p, e)
	}
	return p
}

// takes holds what Take tells against port.
func takes(t *testing.T, p *pool.Pool, now uint64, port uint16) {
	t.Helper()
	if got, e := p.Take(now); got != port || e != api.OK {
		t.Errorf("Take(%d) = %d, %d; want %d, 0", now, got, e, port)
	}
}

// takesNone holds what Take tells against an error.
func takesNone(t *testing.T, p *pool.Pool, now uint64, want api.Errno) {
	t.Helper()
	if got, e := p.Take(now); got != 0 || e != want {
		t.Errorf("Take(%d) = %d, %d; want 0, %d", now, got, e, want)
	}
}

// gives holds what Give tells against an error.
func gives(t *testing.T, p *pool.Pool, port uint16, now uint64, want api.Errno) {
	t.Helper()
	if e := p.Give(port, now); e != want {
		t.Errorf("Give(%d, %d) = %d, want %d", port, now, e, want)
	}
}

// free holds what Free tells against want.
func free(t *testing.T, p *pool.Pool, now uint64, want int) {
	t.Helper()
	if got := p.Free(now); got != want {
		t.Errorf("Free(%d) = %d, want %d", now, got, want)
	}
}

// holds asks whether just these ports are taken.
func holds(t *testing.T, p *pool.Pool, ports ...uint16) {
	t.Helper()
	if got := p.Count(); got != len(ports) {
		t.Errorf("Count() = %d, want %d", got, len(ports))
	}
	for n := range 1 << 16 {
		if got, want := p.Taken(uint16(n)), slices.Contains(ports, uint16(n)); got != want {
			t.Fatalf("Taken(%d) = %v, want %v", n, got, want)
		}
	}
}

func TestExamples(t *testing.T) {
	p := made(t, 5, 6, 10)
	takes(t, p, 1, 5)
	takes(t, p, 1, 6)
	takesNone(t, p, 1, api.ErrFull)
	gives(t, p, 5, 3, api.OK)
	takesNone(t, p, 12, api.ErrFull)
	takes(t, p, 13, 5)
	gives(t, p, 5, 4, api.OK)
	gives(t, p, 7, 4, api.ErrNone)
}

func TestNew(t *testing.T) { // P11.1
	for _, c := range []struct {
		low, high uint16
		rest      uint64
		all       int
	}{
		{5, 7, 10, 3},
		{1, 1, 0, 1},
		{1, 2, 1, 2},
		{1<<16 - 1, 1<<16 - 1, api.MaxTime, 1},
		{1, 1<<16 - 1, api.MaxTime - 1, 1<<16 - 1},
		{255, 256, 5, 2},
		{1<<15 - 1, 1 << 15, 5, 2},
	} {
		p := made(t, c.low, c.high, c.rest)
		holds(t, p)
		free(t, p, 0, c.all)
		takes(t, p, 0, c.low)
	}
}

func TestNewWrong(t *testing.T) { // P11.1: ErrArg
	for _, c := range []struct {
		low, high uint16
		rest      uint64
	}{
		{0, 5, 1},
		{0, 0, 0},
		{0, 1<<16 - 1, 1},
		{6, 5, 1},
		{1<<16 - 1, 1<<16 - 2, 1},
		{1<<16 - 1, 1, 1},
		{256, 255, 1},
		{5, 6, api.MaxTime + 1},
		{5, 6, 1<<64 - 1},
		{0, 0, 1<<64 - 1},
	} {
		if p, e := pool.New(c.low, c.high, c.rest); p != nil || e != api.ErrArg {
			t.Errorf("New(%d, %d, %d) = %v, %d; want nil, 1", c.low, c.high, c.rest, p, e)
		}
	}
}

// notMade are pools that New did not make.
func notMade(t *testing.T) map[string]*pool.Pool {
	moved := *made(t, 5, 7, 10)
	return map[string]*pool.Pool{"none": nil, "of noughts": {}, "a struct's copy": &moved}
}

func TestNotMade(t *testing.T) { // P11.1 to P11.3: ErrNil ahead of all
	for name, p := range notMade(t) {
		t.Run(name, func(t *testing.T) {
			for _, now := range []uint64{0, 1, api.MaxTime, api.MaxTime + 1, 1<<64 - 1} {
				takesNone(t, p, now, api.ErrNil)
				for _, port := range []uint16{0, 5, 7, 1<<16 - 1} {
					gives(t, p, port, now, api.ErrNil)
				}
				free(t, p, now, 0)
			}
			holds(t, p)
			if c := p.Copy(); c != nil {
				t.Errorf("Copy() = %v, want nil", c)
			}
		})
	}
}

// A struct's copy has no part in the pool that it was copied of.
func TestNotMadeApart(t *testing.T) { // R3
	p := made(t, 5, 7, 10)
	takes(t, p, 1, 5)
	moved := *p
	takesNone(t, &moved, 1, api.ErrNil)
	gives(t, &moved, 5, 1, api.ErrNil)
	holds(t, &moved)
	holds(t, p, 5)
	takes(t, p, 1, 6)
}

func TestTakeLeast(t *testing.T) { // P11.2
	p := made(t, 10, 19, 0)
	for port := range uint16(10) {
		takes(t, p, 1, 10+port)
	}
	holds(t, p, 10, 11, 12, 13, 14, 15, 16, 17, 18, 19)
	for _, port := range []uint16{17, 19, 12, 10, 15} {
		gives(t, p, port, 1, api.OK)
	}
	holds(t, p, 11, 13, 14, 16, 18)
	for _, port := range []uint16{10, 12, 15, 17, 19} {
		takes(t, p, 1, port)
	}
	takesNone(t, p, 1, api.ErrFull)
}

// Ports that were given back last are told first, if they are less.
func TestTakeLeastOfRested(t *testing.T) { // P11.2
	p := made(t, 1, 4, 5)
	for port := range uint16(4) {
		takes(t, p, 0, 1+port)
	}
	gives(t, p, 4, 1, api.OK)
	gives(t, p, 2, 2, api.OK)
	gives(t, p, 3, 2, api.OK)
	gives(t, p, 1, 3, api.OK)
	takes(t, p, 6, 4)
	takesNone(t, p, 6, api.ErrFull)
	takes(t, p, 8, 1)
	takes(t, p, 8, 2)
	takes(t, p, 8, 3)
	takesNone(t, p, api.MaxTime, api.ErrFull)
}

func TestAllPorts(t *testing.T) { // P11.2, P11.4
	const all = 1<<16 - 1
	p := made(t, 1, all, 3)
	for n := range all {
		if port, e := p.Take(7); int(port) != n+1 || e != api.OK {
			t.Fatalf("Take %d = %d, %d", n, port, e)
		}
	}
	takesNone(t, p, 7, api.ErrFull)
	if p.Count() != all || p.Free(7) != 0 || p.Taken(0) || !p.Taken(all) {
		t.Errorf("%d are taken, %d free", p.Count(), p.Free(7))
	}
	for n := range all {
		if e := p.Give(uint16(all-n), 8+uint64(n)); e != api.OK {
			t.Fatalf("Give(%d) = %d", all-n, e)
		}
		if got := p.Free(8 + uint64(n)); got != max(0, n-2) {
			t.Fatalf("%d are free behind %d", got, n)
		}
	}
	takes(t, p, api.MaxTime, 1)
	holds(t, p, 1)
	free(t, p, 0, all-1)
}

// A port is at rest just before the end of its rest.
func TestRest(t *testing.T) { // P11.2, P11.4
	for _, rest := range []uint64{1, 2, 10, 255, 1 << 32, api.MaxTime - 7} {
		for _, at := range []uint64{0, 1, 7} {
			p := made(t, 9, 9, rest)
			takes(t, p, 0, 9)
			gives(t, p, 9, at, api.OK)
			holds(t, p)
			for _, now := range []uint64{0, at, at + rest - 1} {
				takesNone(t, p, now, api.ErrFull)
				free(t, p, now, 0)
				gives(t, p, 9, now, api.ErrNone)
			}
			free(t, p, at+rest, 1)
			takes(t, p, at+rest, 9)
			holds(t, p, 9)
		}
	}
}

func TestNoRest(t *testing.T) { // P11.2: with rest 0
	p := made(t, 5, 6, 0)
	for _, now := range []uint64{0, 0, 1, 1, 5, 3, api.MaxTime, 2} {
		takes(t, p, now, 5)
		gives(t, p, 5, now, api.OK)
		holds(t, p)
		free(t, p, now, 2)
	}
}

// A rest that ends behind all time never does.
func TestEndlessRest(t *testing.T) { // P11.2, P11.4
	for rest, at := range map[uint64]uint64{api.MaxTime: 1, 1: api.MaxTime, api.MaxTime - 1: 2} {
		p := made(t, 5, 5, rest)
		takes(t, p, 0, 5)
		gives(t, p, 5, at, api.OK)
		takesNone(t, p, api.MaxTime, api.ErrFull)
		free(t, p, api.MaxTime, 0)
	}
	p := made(t, 5, 5, api.MaxTime)
	takes(t, p, 0, 5)
	gives(t, p, 5, 0, api.OK)
	takesNone(t, p, api.MaxTime-1, api.ErrFull)
	takes(t, p, api.MaxTime, 5)
}

// Who asks at the very last tick is answered, and not behind it.
func TestNowWrong(t *testing.T) { // P11.2, P11.3: ErrArg
	for _, now := range []uint64{api.MaxTime + 1, 1 << 63, 1<<64 - 1} {
		p := made(t, 5, 6, 10)
		takesNone(t, p, now, api.ErrArg)
		takes(t, p, 0, 5)
		gives(t, p, 5, now, api.ErrArg)
		gives(t, p, 6, now, api.ErrArg) // ahead of ErrNone
		gives(t, p, 0, now, api.ErrArg)
		free(t, p, now, 0)
		holds(t, p, 5)
		takes(t, p, 0, 6)
		takesNone(t, p, now, api.ErrArg) // ahead of ErrFull
		gives(t, p, 5, api.MaxTime, api.OK)
		takesNone(t, p, api.MaxTime, api.ErrFull)
		free(t, p, api.MaxTime, 0)
		holds(t, p, 6)
	}
}

func TestGiveWrong(t *testing.T) { // P11.2: ErrNone
	p := made(t, 5, 7, 10)
	takes(t, p, 1, 5)
	takes(t, p, 1, 6)
	for _, port := range []uint16{0, 1, 4, 7, 8, 5 + 1<<8, 1<<16 - 1} { // free, or none of the pool's
		gives(t, p, port, 1, api.ErrNone)
	}
	holds(t, p, 5, 6)
	free(t, p, 1, 1)
	gives(t, p, 5, 1, api.OK)
	gives(t, p, 5, 1, api.ErrNone) // at rest
	gives(t, p, 5, 11, api.ErrNone)
	takes(t, p, 11, 5)
	gives(t, p, 5, 11, api.OK)
	holds(t, p, 6)
}

func TestTakenOutside(t *testing.T) { // P11.3
	p := made(t, 1<<16-2, 1<<16-1, 10)
	holds(t, p)
	takes(t, p, 1, 1<<16-2)
	takes(t, p, 1, 1<<16-1)
	holds(t, p, 1<<16-2, 1<<16-1)
	takesNone(t, p, 1, api.ErrFull)
}

// rested is a pool of one port that is free from 20 on.
func rested(t *testing.T) *pool.Pool {
	p := made(t, 5, 6, 10)
	takes(t, p, 1, 5)
	takes(t, p, 1, 6)
	gives(t, p, 5, 10, api.OK)
	return p
}

// Each call that tells a now takes the time there, and none takes it back.
func TestNowStays(t *testing.T) { // Words
	full := rested(t)
	takesNone(t, full, 19, api.ErrFull)
	gives(t, full, 6, 1, api.OK) // as at 19
	free(t, full, 28, 1)
	free(t, full, 29, 2)
	free(t, full, 0, 2)

	took := rested(t)
	takes(t, took, 25, 5)
	gives(t, took, 6, 2, api.OK) // as at 25
	free(t, took, 34, 0)
	takes(t, took, 35, 6)

	gave := rested(t)
	gives(t, gave, 6, 20, api.OK)
	takes(t, gave, 0, 5) // as at 20
	takesNone(t, gave, 29, api.ErrFull)
	takes(t, gave, 30, 6)

	asked := rested(t)
	free(t, asked, 20, 1)
	free(t, asked, 19, 1)
	gives(t, asked, 6, 3, api.OK) // as at 20
	free(t, asked, 29, 1)
	free(t, asked, 30, 2)
}

// Time stays where it is, if a call told an error by which nothing is done.
func TestNowOfErrors(t *testing.T) { // Words, R2
	for name, do := range map[string]func(p *pool.Pool){
		"Give of a port at rest": func(p *pool.Pool) { gives(t, p, 5, 1000, api.ErrNone) },
		"Give of no port of it":  func(p *pool.Pool) { gives(t, p, 7, api.MaxTime, api.ErrNone) },
		"Give behind all time":   func(p *pool.Pool) { gives(t, p, 6, api.MaxTime+1, api.ErrArg) },
		"Take behind all time":   func(p *pool.Pool) { takesNone(t, p, api.MaxTime+1, api.ErrArg) },
		"Free behind all time":   func(p *pool.Pool) { free(t, p, api.MaxTime+1, 0) },
		"Taken":                  func(p *pool.Pool) { p.Taken(5) },
		"Count":                  func(p *pool.Pool) { p.Count() },
		"Copy":                   func(p *pool.Pool) { p.Copy() },
	} {
		t.Run(name, func(t *testing.T) {
			p := rested(t)
			do(p)
			holds(t, p, 6)
			free(t, p, 19, 0)
			gives(t, p, 6, 19, api.OK)
			free(t, p, 28, 1)
			free(t, p, 29, 2)
		})
	}
}

// Each of two lives on as if there were no other.
func TestCopyApart(t *testing.T) { // P11.1
	p := made(t, 1, 6, 10)
	for range 5 {
		p.Take(1)
	}
	for port := range uint16(3) {
		gives(t, p, 1+port, 4, api.OK) // to rest with room for more behind them
	}
	c := p.Copy()
	holds(t, c, 4, 5)
	gives(t, p, 4, 4, api.OK)
	gives(t, c, 5, 4, api.OK)
	holds(t, p, 5)
	holds(t, c, 4)
	takes(t, p, 13, 6)
	free(t, c, 13, 1)
	free(t, p, 14, 4)
	free(t, c, 14, 5)
	takes(t, c, 14, 1)
	takes(t, p, 14, 1)
	gives(t, p, 5, 14, api.OK)
	for _, port := range []uint16{2, 3, 5, 6} {
		takes(t, c, 14, port)
	}
	takesNone(t, c, 14, api.ErrFull)
	holds(t, c, 1, 2, 3, 4, 5, 6)
	holds(t, p, 1, 6)
}

// What is told to one is not told to the other.
func TestCopyTime(t *testing.T) { // P11.1
	p := rested(t)
	free(t, p, 15, 0)
	c := p.Copy()
	free(t, p, 1000, 1)
	gives(t, c, 6, 3, api.OK) // as at 15
	free(t, c, 19, 0)
	free(t, c, 24, 1)
	free(t, c, 25, 2)
	holds(t, p, 6)

	free(t, c, 3000, 2)
	d := p.Copy()
	takes(t, d, 0, 5)
	gives(t, d, 6, 0, api.OK) // as at 1000
	free(t, d, 1009, 0)
	free(t, d, 1010, 1)
	takes(t, p, 0, 5)
}

// model is a pool as the document's words have it, without any thrift.
type model struct {
	low, high uint16
	rest, now uint64
	taken     map[uint16]int
	given     map[uint16]uint64 // when a port was given back, if it is not taken
}

func modelOf(low, high uint16, rest uint64) *model {
	return &model{low: low, high: high, rest: rest, taken: map[uint16]int{}, given: map[uint16]uint64{}}
}

func (m *model) copy() *model {
	c := *m
	c.taken, c.given = map[uint16]int{}, map[uint16]uint64{}
	for port := range m.taken {
		c.taken[port] = 1
	}
	for port, at := range m.given {
		c.given[port] = at
	}
	return &c
}

// frees tells the ports that are free at now, the least first.
func (m *model) frees(now uint64) (ports []uint16) {
	m.now = max(m.now, now)
	for port := int(m.low); port <= int(m.high); port++ {
		at, was := m.given[uint16(port)]
		if m.taken[uint16(port)] == 0 && (!was || m.now >= at+m.rest) {
			ports = append(ports, uint16(port))
		}
	}
	return ports
}

func (m *model) Take(now uint64) (uint16, api.Errno) {
	if now > api.MaxTime {
		return 0, api.ErrArg
	}
	ports := m.frees(now)
	if len(ports) == 0 {
		return 0, api.ErrFull
	}
	delete(m.given, ports[0])
	m.taken[ports[0]] = 1
	return ports[0], api.OK
}

func (m *model) Give(port uint16, now uint64) api.Errno {
	if now > api.MaxTime {
		return api.ErrArg
	}
	if m.taken[port] == 0 {
		return api.ErrNone
	}
	m.now = max(m.now, now)
	delete(m.taken, port)
	m.given[port] = m.now
	return api.OK
}

// both are a pool and the model of it.
type both struct {
	p *pool.Pool
	m *model
}

func (x both) copy() both {
	return both{x.p.Copy(), x.m.copy()}
}

// same holds what is asked of the pool against the model: P11.3, P11.5.
func (x both) same(t *testing.T, now uint64) {
	t.Helper()
	want := len(x.m.frees(now))
	if got := x.p.Free(now); got != want {
		t.Fatalf("Free(%d) = %d, want %d", now, got, want)
	}
	if got := x.p.Count(); got != len(x.m.taken) {
		t.Fatalf("Count() = %d, want %d", got, len(x.m.taken))
	}
	for port := max(int(x.m.low), 3) - 3; port <= min(int(x.m.high)+3, 1<<16-1); port++ {
		if got := x.p.Taken(uint16(port)); got != (x.m.taken[uint16(port)] == 1) {
			t.Fatalf("Taken(%d) = %v", port, got)
		}
	}
}

// step does any one thing with both.
func (x both) step(t *testing.T, c *chance) {
	t.Helper()
	now := x.m.now + uint64(c.below(4))
	switch c.below(20) {
	case 0:
		now = c.next()
	case 1:
		now = x.m.now - min(x.m.now, uint64(c.below(20)))
	case 2:
		now = api.MaxTime + 1 + c.next()
	}
	if now > x.m.now+1<<20 && now <= api.MaxTime {
		now = x.m.now
	}
	switch c.below(9) {
	case 0, 1, 2, 3:
		port, e := x.p.Take(now)
		if want, f := x.m.Take(now); port != want || e != f {
			t.Fatalf("Take(%d) = %d, %d; want %d, %d", now, port, e, want, f)
		}
	case 4, 5, 6, 7:
		port := x.m.low - 1 + uint16(c.below(int(x.m.high-x.m.low)+3))
		e := x.p.Give(port, now)
		if f := x.m.Give(port, now); e != f {
			t.Fatalf("Give(%d, %d) = %d, want %d", port, now, e, f)
		}
	case 8:
		if now <= api.MaxTime {
			x.same(t, now)
		} else {
			free(t, x.p, now, 0)
		}
	}
}

// pools tells pools of few and of more ports, at both ends of all, with short
// and with long rests.
func pools(t *testing.T) (all []both) {
	for _, ports := range [][2]uint16{{1, 1}, {5, 6}, {1, 5}, {250, 262}, {1<<16 - 9, 1<<16 - 1}, {100, 160}} {
		for _, rest := range []uint64{0, 1, 3, 10, 64, api.MaxTime} {
			all = append(all, both{made(t, ports[0], ports[1], rest), modelOf(ports[0], ports[1], rest)})
		}
	}
	return all
}

func TestAnything(t *testing.T) { // P11.1 to P11.5
	for n, x := range pools(t) {
		c := chance(n)
		for range 3000 {
			x.step(t, &c)
		}
		x.same(t, x.m.now)
	}
}

func TestAnythingWithCopies(t *testing.T) { // P11.1
	for n, x := range pools(t) {
		c := chance(1000 + n)
		all := []both{x}
		for range 400 {
			for _, y := range all {
				y.step(t, &c)
			}
			switch c.below(10) {
			case 0:
				all = append(all, all[c.below(len(all))].copy())
			case 1:
				all = slices.Delete(all, 0, len(all)/4)
			}
		}
		for _, y := range all {
			y.same(t, y.m.now)
		}
	}
}

// at is a port's state, as its calls' answers have it.
type at struct {
	taken bool
	end   uint64 // of its rest
}

// A port is told only if it may be; if one may be, it is told.
func TestNoPortTwice(t *testing.T) { // P11.4, P11.5
	const low, high, rest = 20, 30, 9
	p, c, now := made(t, low, high, rest), chance(77), uint64(0)
	ports := map[uint16]at{}
	for range 20000 {
		now += uint64(c.below(3))
		if c.below(2) == 0 {
			port, free := uint16(low+c.below(high-low+1)), p.Free(now)
			was := ports[port]
			if e := p.Give(port, now); (e == api.OK) != was.taken {
				t.Fatalf("Give(%d, %d) = %d", port, now, e)
			}
			if was.taken {
				ports[port] = at{end: now + rest}
			}
			if p.Free(now) != free {
				t.Fatalf("Give(%d, %d) freed one", port, now)
			}
			continue
		}
		free := p.Free(now)
		port, e := p.Take(now)
		if (e == api.OK) != (free > 0) {
			t.Fatalf("Take(%d) = %d, %d; %d were free", now, port, e, free)
		}
		if e != api.OK {
			continue
		}
		if was := ports[port]; port < low || port > high || was.taken || now < was.end {
			t.Fatalf("Take(%d) told %d, which was %v", now, port, was)
		}
		ports[port] = at{taken: true}
	}
}

// Taken, free and at rest are all ports together.
func TestAllTogether(t *testing.T) { // P11.5
	const low, high, rest = 1, 40, 30
	p, c, now := made(t, low, high, rest), chance(5), uint64(0)
	ends := map[uint16]uint64{}
	for range 5000 {
		now += uint64(c.below(2))
		if port, e := p.Take(now); e == api.OK {
			delete(ends, port)
		}
		if port := uint16(low + c.below(high)); p.Give(port, now) == api.OK {
			ends[port] = now + rest
		}
		resting := 0
		for _, end := range ends {
			if now < end {
				resting++
			}
		}
		if all := p.Count() + p.Free(now) + resting; all != high-low+1 {
			t.Fatalf("at %d: %d taken, %d free, %d at rest", now, p.Count(), p.Free(now), resting)
		}
	}
}
