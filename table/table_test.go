package table_test

import (
	"math"
	"slices"
	"testing"

	"culvert/api"
	"culvert/table"
)

// chance makes numbers that look like chance, always the same ones.
type chance uint64

func (c *chance) next() uint64 {
	*c = *c*6364136223846793005 + 1442695040888963407
	return uint64(*c) >> 32
}

// below makes a number below n.
func (c *chance) below(n int) int {
	return int(c.next() % uint64(n))
}

// no is the tuple of noughts.
var no api.Tuple

// in is the n-th of inner tuples that are all unlike.
func in(n int) api.Tuple {
	return api.Tuple{Proto: api.Tcp, Src: 0x0a000002, Dst: 0xc0000201, SPort: uint16(n), DPort: 80}
}

// out is the n-th of outer tuples that are all unlike.
func out(n int) api.Tuple {
	return api.Tuple{Proto: api.Tcp, Src: 0xc6336401, Dst: 0x01010101, SPort: uint16(n), DPort: 8080}
}

// made makes a table that may be.
func made(t *testing.T, most int) *table.Table {
	t.Helper()
	x, e := table.New(most)
	if e != api.OK || x == nil {
		t.Fatalf("New(%d) = %v, %d", most, x, e)
	}
	return x
}

// adds holds what Add tells against an id, and that of the one that went.
func adds(t *testing.T, x *table.Table, inner, outer api.Tuple, id, went uint64) {
	t.Helper()
	if got, gone, e := x.Add(inner, outer); got != id || gone != went || e != api.OK {
		t.Errorf("Add(%v, %v) = %d, %d, %d; want %d, %d, 0", inner, outer, got, gone, e, id, went)
	}
}

// addsNone holds what Add tells against an error.
func addsNone(t *testing.T, x *table.Table, inner, outer api.Tuple, want api.Errno) {
	t.Helper()
	if got, gone, e := x.Add(inner, outer); got != 0 || gone != 0 || e != want {
		t.Errorf("Add(%v, %v) = %d, %d, %d; want 0, 0, %d", inner, outer, got, gone, e, want)
	}
}

// leads holds what Lead tells against an error.
func leads(t *testing.T, x *table.Table, id uint64, outer api.Tuple, want api.Errno) {
	t.Helper()
	if e := x.Lead(id, outer); e != want {
		t.Errorf("Lead(%d, %v) = %d, want %d", id, outer, e, want)
	}
}

// touches holds what Touch tells against an error.
func touches(t *testing.T, x *table.Table, id uint64, want api.Errno) {
	t.Helper()
	if e := x.Touch(id); e != want {
		t.Errorf("Touch(%d) = %d, want %d", id, e, want)
	}
}

// readies holds what Ready tells against an error.
func readies(t *testing.T, x *table.Table, id uint64, want api.Errno) {
	t.Helper()
	if e := x.Ready(id); e != want {
		t.Errorf("Ready(%d) = %d, want %d", id, e, want)
	}
}

// drops holds what Drop tells against an error.
func drops(t *testing.T, x *table.Table, id uint64, want api.Errno) {
	t.Helper()
	if e := x.Drop(id); e != want {
		t.Errorf("Drop(%d) = %d, want %d", id, e, want)
	}
}

// finds holds what Inner and Outer tell of a tuple against ids, of which 0 is
// none.
func finds(t *testing.T, x *table.Table, of api.Tuple, inner, outer uint64) {
	t.Helper()
	if got, is := x.Inner(of); got != inner || is != (inner != 0) {
		t.Errorf("Inner(%v) = %d, %v; want %d", of, got, is, inner)
	}
	if got, is := x.Outer(of); got != outer || is != (outer != 0) {
		t.Errorf("Outer(%v) = %d, %v; want %d", of, got, is, outer)
	}
}

// knowsNone asks whether nothing tells that there is a flow of that id.
func knowsNone(t *testing.T, x *table.Table, id uint64) {
	t.Helper()
	if f, is := x.Flow(id); f != (table.Flow{}) || is {
		t.Errorf("Flow(%d) = %v, %v; want noughts, false", id, f, is)
	}
	leads(t, x, id, no, api.ErrNone)
	leads(t, x, id, out(60000), api.ErrNone)
	touches(t, x, id, api.ErrNone)
	readies(t, x, id, api.ErrNone)
	drops(t, x, id, api.ErrNone)
}

// holds asks whether a table has just these flows, in that order of use.
func holds(t *testing.T, x *table.Table, flows ...table.Flow) {
	t.Helper()
	if got := x.Len(); got != len(flows) {
		t.Errorf("Len() = %d, want %d", got, len(flows))
	}
	if got := x.All(); !slices.Equal(got, flows) {
		t.Errorf("All() = %v, want %v", got, flows)
	}
	for _, f := range flows {
		if got, is := x.Flow(f.Id); got != f || !is {
			t.Errorf("Flow(%d) = %v, %v; want %v, true", f.Id, got, is, f)
		}
		if got, is := x.Inner(f.Inner); got != f.Id || !is {
			t.Errorf("Inner(%v) = %d, %v; want %d, true", f.Inner, got, is, f.Id)
		}
		if f.Outer == no {
			continue
		}
		if got, is := x.Outer(f.Outer); got != f.Id || !is {
			t.Errorf("Outer(%v) = %d, %v; want %d, true", f.Outer, got, is, f.Id)
		}
	}
	finds(t, x, no, 0, 0)
}

// ordered asks whether a table has just the flows of these ids, in that order of
// use.
func ordered(t *testing.T, x *table.Table, ids ...uint64) {
	t.Helper()
	var got []uint64
	for _, f := range x.All() {
		got = append(got, f.Id)
	}
	if !slices.Equal(got, ids) || x.Len() != len(ids) {
		t.Errorf("%d flows, %d; want %d", x.Len(), got, ids)
	}
}

// filled makes a table that is full of embryonic flows from in(1) to in(most),
// with out(1) to out(most).
func filled(t *testing.T, most int) *table.Table {
	t.Helper()
	x := made(t, most)
	for n := 1; n <= most; n++ {
		adds(t, x, in(n), out(n), uint64(n), 0)
	}
	return x
}

func TestExamples(t *testing.T) {
	x := made(t, 2)
	a, b, c := in(1), in(2), in(3)
	adds(t, x, a, no, 1, 0)
	adds(t, x, b, no, 2, 0)
	addsNone(t, x, a, no, api.ErrThere)
	touches(t, x, 1, api.OK)
	adds(t, x, c, no, 3, 2)
	readies(t, x, 1, api.OK)
	readies(t, x, 3, api.OK)
	addsNone(t, x, b, no, api.ErrFull)
}

func TestNew(t *testing.T) { // P13.1
	for _, most := range []int{1, 2, 3, 255, 256, api.MaxFlows - 1, api.MaxFlows} {
		x := made(t, most)
		holds(t, x)
		for _, id := range []uint64{0, 1, 2, math.MaxUint64} {
			knowsNone(t, x, id)
		}
		finds(t, x, in(1), 0, 0)
		finds(t, x, out(1), 0, 0)
	}
}

func TestNewWrong(t *testing.T) { // P13.1: ErrArg
	for _, most := range []int{0, -1, math.MinInt, api.MaxFlows + 1, 2 * api.MaxFlows, math.MaxInt, 1<<32 + 1} {
		if x, e := table.New(most); x != nil || e != api.ErrArg {
			t.Errorf("New(%d) = %v, %d; want nil, 1", most, x, e)
		}
	}
}

func TestNotMade(t *testing.T) { // P13.1 to P13.4: ErrNil ahead of all
	moved := *filled(t, 2)
	for name, x := range map[string]*table.Table{"none": nil, "of noughts": {}, "a struct's copy": &moved} {
		t.Run(name, func(t *testing.T) {
			for _, inner := range []api.Tuple{no, in(1), in(3)} {
				for _, outer := range []api.Tuple{no, out(1), out(3)} {
					addsNone(t, x, inner, outer, api.ErrNil)
				}
			}
			for _, id := range []uint64{0, 1, 2, 3} {
				leads(t, x, id, no, api.ErrNil)
				leads(t, x, id, out(1), api.ErrNil)
				touches(t, x, id, api.ErrNil)
				readies(t, x, id, api.ErrNil)
				drops(t, x, id, api.ErrNil)
				if f, is := x.Flow(id); f != (table.Flow{}) || is {
					t.Errorf("Flow(%d) = %v, %v; want noughts, false", id, f, is)
				}
			}
			finds(t, x, in(1), 0, 0)
			finds(t, x, out(1), 0, 0)
			holds(t, x)
			if c := x.Copy(); c != nil {
				t.Errorf("Copy() = %v, want nil", c)
			}
		})
	}
}

// A struct's copy has no part in the table that it was copied of.
func TestNotMadeApart(t *testing.T) { // R3
	x := made(t, 2)
	adds(t, x, in(1), out(1), 1, 0)
	moved := *x
	addsNone(t, &moved, in(2), no, api.ErrNil)
	leads(t, &moved, 1, out(2), api.ErrNil)
	readies(t, &moved, 1, api.ErrNil)
	drops(t, &moved, 1, api.ErrNil)
	holds(t, &moved)
	holds(t, x, table.Flow{Id: 1, Inner: in(1), Outer: out(1), Embryo: true})
	finds(t, x, in(2), 0, 0)
	finds(t, x, out(2), 0, 0)
}

func TestAdd(t *testing.T) { // P13.2, P13.4
	x := made(t, 4)
	adds(t, x, in(1), no, 1, 0)
	adds(t, x, in(2), out(2), 2, 0)
	adds(t, x, in(3), no, 3, 0)
	holds(t, x,
		table.Flow{Id: 1, Inner: in(1), Embryo: true},
		table.Flow{Id: 2, Inner: in(2), Outer: out(2), Embryo: true},
		table.Flow{Id: 3, Inner: in(3), Embryo: true})
	finds(t, x, in(2), 2, 0)
	finds(t, x, out(2), 0, 2)
	for _, other := range []api.Tuple{in(4), out(1), out(3)} {
		finds(t, x, other, 0, 0)
	}
	knowsNone(t, x, 0)
	knowsNone(t, x, 4)
}

// Tuples are held against each other in each of their fields, and bit by bit.
func TestTuplesUnlike(t *testing.T) { // P13.2, P13.4
	of := api.Tuple{Proto: 6, Src: 1 << 8, Dst: 1 << 8, SPort: 1 << 8, DPort: 1 << 8}
	all := []api.Tuple{of}
	for bit := range 32 {
		src, dst, sport, dport, proto := of, of, of, of, of
		src.Src ^= 1 << bit
		dst.Dst ^= 1 << bit
		all = append(all, src, dst)
		if bit < 16 {
			sport.SPort ^= 1 << bit
			dport.DPort ^= 1 << bit
			all = append(all, sport, dport)
		}
		if bit < 8 {
			proto.Proto ^= 1 << bit
			all = append(all, proto)
		}
	}
	x := made(t, api.MaxFlows)
	for n, tuple := range all {
		finds(t, x, tuple, 0, 0)
		adds(t, x, tuple, tuple, uint64(n+1), 0) // of both sides the same one: they are apart
	}
	for n, tuple := range all {
		finds(t, x, tuple, uint64(n+1), uint64(n+1))
		addsNone(t, x, tuple, no, api.ErrThere)
		addsNone(t, x, in(1), tuple, api.ErrThere)
	}
}

// A tuple with one bit that is not 0 is one.
func TestTuplesNearNone(t *testing.T) { // P13.2
	for _, tuple := range []api.Tuple{{Proto: 1}, {Src: 1}, {Dst: 1}, {SPort: 1}, {DPort: 1},
		{Proto: 128}, {Src: 1 << 31}, {Dst: 1 << 31}, {SPort: 1 << 15}, {DPort: 1 << 15}} {
		x := made(t, 2)
		adds(t, x, tuple, tuple, 1, 0)
		finds(t, x, tuple, 1, 1)
		addsNone(t, x, tuple, no, api.ErrThere)
		addsNone(t, x, in(1), tuple, api.ErrThere)
		adds(t, x, in(1), no, 2, 0)
		leads(t, x, 2, tuple, api.ErrThere)
		leads(t, x, 1, no, api.OK)
		leads(t, x, 2, tuple, api.OK)
		finds(t, x, tuple, 1, 2)
	}
}

// Of one flow the inner tuple is no other one's outer one, and finds none there.
func TestSidesApart(t *testing.T) { // P13.2, P13.5
	x := made(t, 3)
	adds(t, x, in(1), in(2), 1, 0)
	adds(t, x, in(2), in(1), 2, 0)
	finds(t, x, in(1), 1, 2)
	finds(t, x, in(2), 2, 1)
	adds(t, x, out(1), no, 3, 0)
	finds(t, x, out(1), 3, 0)
	leads(t, x, 3, out(1), api.OK)
	finds(t, x, out(1), 3, 3)
}

// Any number of flows has no outer tuple.
func TestManyWithoutOuter(t *testing.T) { // P13.2, P13.5
	x := made(t, 5)
	for n := 1; n <= 5; n++ {
		adds(t, x, in(n), no, uint64(n), 0)
		finds(t, x, no, 0, 0)
	}
	drops(t, x, 3, api.OK)
	finds(t, x, no, 0, 0)
	ordered(t, x, 1, 2, 4, 5)
}

func TestAddWrong(t *testing.T) { // P13.2: ErrArg ahead of ErrThere, and of ErrFull; R2
	embryos, ready := filled(t, 2), filled(t, 2)
	readies(t, ready, 1, api.OK)
	readies(t, ready, 2, api.OK)
	for _, x := range []*table.Table{made(t, 2), embryos, ready} {
		was := x.All()
		for _, outer := range []api.Tuple{no, out(1), out(3)} {
			addsNone(t, x, no, outer, api.ErrArg)
		}
		holds(t, x, was...)
		finds(t, x, out(3), 0, 0)
	}
}

func TestAddThere(t *testing.T) { // P13.2: ErrThere; R2
	x := made(t, 4)
	adds(t, x, in(1), out(1), 1, 0)
	adds(t, x, in(2), no, 2, 0)
	was := x.All()
	addsNone(t, x, in(1), no, api.ErrThere)
	addsNone(t, x, in(1), out(3), api.ErrThere)
	addsNone(t, x, in(3), out(1), api.ErrThere)
	addsNone(t, x, in(1), out(1), api.ErrThere)
	addsNone(t, x, in(2), out(1), api.ErrThere)
	addsNone(t, x, in(2), no, api.ErrThere)
	holds(t, x, was...)
	finds(t, x, in(3), 0, 0)
	finds(t, x, out(3), 0, 0)
	adds(t, x, in(3), no, 3, 0) // no id was lost
}

// None goes for one that may not be added, also not the one that has its tuple.
func TestAddThereOfFull(t *testing.T) { // P13.2: ErrThere ahead of ErrFull; R2
	x := filled(t, 2)
	was := x.All()
	addsNone(t, x, in(1), no, api.ErrThere)
	addsNone(t, x, in(1), out(1), api.ErrThere)
	addsNone(t, x, in(3), out(1), api.ErrThere)
	addsNone(t, x, in(3), out(2), api.ErrThere)
	holds(t, x, was...)
	readies(t, x, 1, api.OK)
	readies(t, x, 2, api.OK)
	was = x.All()
	addsNone(t, x, in(1), no, api.ErrThere)
	addsNone(t, x, in(3), out(2), api.ErrThere)
	addsNone(t, x, in(3), out(3), api.ErrFull)
	addsNone(t, x, in(3), no, api.ErrFull)
	holds(t, x, was...)
	finds(t, x, in(3), 0, 0)
	finds(t, x, out(3), 0, 0)
	drops(t, x, 1, api.OK)
	adds(t, x, in(3), out(3), 3, 0) // no id was lost
}

// None goes before there are most flows.
func TestAddGoesLate(t *testing.T) { // P13.2, P13.5
	for _, most := range []int{1, 2, 7, api.MaxFlows} {
		x := filled(t, most)
		if x.Len() != most {
			t.Fatalf("Len() = %d, want %d", x.Len(), most)
		}
		adds(t, x, in(most+1), no, uint64(most+1), 1)
		if x.Len() != most {
			t.Fatalf("Len() = %d, want %d", x.Len(), most)
		}
		first := x.All()[0].Id
		drops(t, x, first, api.OK)
		adds(t, x, in(1), out(1), uint64(most+2), 0)
		adds(t, x, in(most+2), no, uint64(most+3), x.All()[0].Id)
		knowsNone(t, x, first)
	}
}

// The first embryonic one in the order of use goes, wherever it stands.
func TestAddGoesFirst(t *testing.T) { // P13.2
	x := filled(t, 5)
	touches(t, x, 1, api.OK) // 2 3 4 5 1
	readies(t, x, 2, api.OK)
	readies(t, x, 4, api.OK)
	adds(t, x, in(6), out(6), 6, 3)
	ordered(t, x, 2, 4, 5, 1, 6)
	touches(t, x, 5, api.OK)
	adds(t, x, in(7), out(7), 7, 1)
	ordered(t, x, 2, 4, 6, 5, 7)
	readies(t, x, 6, api.OK)
	readies(t, x, 5, api.OK)
	adds(t, x, in(8), out(8), 8, 7) // the last one
	adds(t, x, in(9), out(9), 9, 8)
	ordered(t, x, 2, 4, 6, 5, 9)
	readies(t, x, 9, api.OK)
	addsNone(t, x, in(10), out(10), api.ErrFull)
	ordered(t, x, 2, 4, 6, 5, 9)
}

// Who went is gone in every way, and its tuples are free.
func TestGone(t *testing.T) { // P13.2, P13.3, P13.5
	went, dropped := filled(t, 3), filled(t, 3)
	adds(t, went, in(4), no, 4, 1)
	drops(t, dropped, 1, api.OK)
	adds(t, dropped, in(4), no, 4, 0)
	for _, x := range []*table.Table{went, dropped} {
		knowsNone(t, x, 1)
		finds(t, x, in(1), 0, 0)
		finds(t, x, out(1), 0, 0)
		ordered(t, x, 2, 3, 4)
		leads(t, x, 4, out(1), api.OK)
		adds(t, x, in(1), out(4), 5, 2)
		finds(t, x, in(1), 5, 0)
		finds(t, x, out(1), 0, 4)
		finds(t, x, out(4), 0, 5)
		knowsNone(t, x, 1)
	}
}

// The one that goes makes room for its own tuples only behind its going.
func TestGoesOfOne(t *testing.T) { // P13.2
	x := made(t, 1)
	adds(t, x, in(1), out(1), 1, 0)
	addsNone(t, x, in(2), out(1), api.ErrThere)
	adds(t, x, in(2), out(2), 2, 1)
	adds(t, x, in(1), out(1), 3, 2)
	readies(t, x, 3, api.OK)
	addsNone(t, x, in(2), out(2), api.ErrFull)
	addsNone(t, x, in(1), out(2), api.ErrThere)
	holds(t, x, table.Flow{Id: 3, Inner: in(1), Outer: out(1)})
	drops(t, x, 3, api.OK)
	holds(t, x)
	adds(t, x, in(1), out(1), 4, 0)
}

// Whichever is touched is the last one then, and the others stay as they were.
func TestTouch(t *testing.T) { // P13.3
	x := filled(t, 4)
	touches(t, x, 4, api.OK)
	ordered(t, x, 1, 2, 3, 4)
	touches(t, x, 1, api.OK)
	ordered(t, x, 2, 3, 4, 1)
	touches(t, x, 3, api.OK)
	ordered(t, x, 2, 4, 1, 3)
	touches(t, x, 3, api.OK)
	ordered(t, x, 2, 4, 1, 3)
	touches(t, x, 4, api.OK)
	readies(t, x, 2, api.OK)
	touches(t, x, 2, api.OK)
	holds(t, x,
		table.Flow{Id: 1, Inner: in(1), Outer: out(1), Embryo: true},
		table.Flow{Id: 3, Inner: in(3), Outer: out(3), Embryo: true},
		table.Flow{Id: 4, Inner: in(4), Outer: out(4), Embryo: true},
		table.Flow{Id: 2, Inner: in(2), Outer: out(2)})

	one := filled(t, 1)
	touches(t, one, 1, api.OK)
	holds(t, one, table.Flow{Id: 1, Inner: in(1), Outer: out(1), Embryo: true})
}

// Only Add and Touch change the order of use.
func TestOrderStays(t *testing.T) { // Words
	x := filled(t, 3)
	readies(t, x, 1, api.OK)
	readies(t, x, 2, api.OK)
	leads(t, x, 1, out(7), api.OK)
	leads(t, x, 2, no, api.OK)
	leads(t, x, 1, out(3), api.ErrThere)
	finds(t, x, in(1), 1, 0)
	finds(t, x, out(7), 0, 1)
	x.Flow(1)
	x.All()
	x.Copy()
	addsNone(t, x, in(1), no, api.ErrThere)
	touches(t, x, 9, api.ErrNone)
	ordered(t, x, 1, 2, 3)
	drops(t, x, 2, api.OK)
	ordered(t, x, 1, 3)
}

func TestReady(t *testing.T) { // P13.3, P13.6
	x := filled(t, 3)
	readies(t, x, 2, api.OK)
	readies(t, x, 2, api.OK) // also one that is so
	holds(t, x,
		table.Flow{Id: 1, Inner: in(1), Outer: out(1), Embryo: true},
		table.Flow{Id: 2, Inner: in(2), Outer: out(2)},
		table.Flow{Id: 3, Inner: in(3), Outer: out(3), Embryo: true})
	touches(t, x, 2, api.OK)
	leads(t, x, 2, out(9), api.OK)
	holds(t, x,
		table.Flow{Id: 1, Inner: in(1), Outer: out(1), Embryo: true},
		table.Flow{Id: 3, Inner: in(3), Outer: out(3), Embryo: true},
		table.Flow{Id: 2, Inner: in(2), Outer: out(9)})
}

// Whatever is added, who is embryonic no more stays till it is dropped.
func TestReadyStays(t *testing.T) { // P13.6
	x := filled(t, 4)
	readies(t, x, 1, api.OK)
	readies(t, x, 3, api.OK)
	went := []uint64{2, 4}
	for n := 5; n < 300; n++ {
		adds(t, x, in(n), out(n), uint64(n), went[0])
		went = append(went[1:], uint64(n))
		ordered(t, x, 1, 3, went[0], went[1])
	}
	drops(t, x, 1, api.OK)
	ordered(t, x, 3, 298, 299)
	readies(t, x, 298, api.OK)
	readies(t, x, 299, api.OK)
	adds(t, x, in(300), no, 300, 0)
	adds(t, x, in(301), no, 301, 300)
	ordered(t, x, 3, 298, 299, 301)
}

func TestDrop(t *testing.T) { // P13.3
	for id := uint64(1); id <= 4; id++ {
		x := filled(t, 4)
		readies(t, x, 2, api.OK)
		readies(t, x, 3, api.OK)
		left := slices.DeleteFunc(x.All(), func(f table.Flow) bool { return f.Id == id })
		drops(t, x, id, api.OK)
		holds(t, x, left...)
		knowsNone(t, x, id)
		finds(t, x, in(int(id)), 0, 0)
		finds(t, x, out(int(id)), 0, 0)
		adds(t, x, in(int(id)), out(int(id)), 5, 0)
		holds(t, x, append(left, table.Flow{Id: 5, Inner: in(int(id)), Outer: out(int(id)), Embryo: true})...)
		knowsNone(t, x, id)
	}
}

// An id is never given twice, whichever way flows go.
func TestIds(t *testing.T) { // Words
	x := made(t, 2)
	for id := uint64(1); id < 200; id += 3 {
		adds(t, x, in(1), out(1), id, 0)
		addsNone(t, x, in(1), no, api.ErrThere)
		addsNone(t, x, no, no, api.ErrArg)
		adds(t, x, in(2), out(2), id+1, 0)
		adds(t, x, in(3), out(3), id+2, id)
		drops(t, x, id+2, api.OK)
		drops(t, x, id+1, api.OK)
		holds(t, x)
		for _, gone := range []uint64{0, 1, id, id + 1, id + 2, id + 3} {
			knowsNone(t, x, gone)
		}
	}
}

// An id is held against others in all its bits.
func TestIdsUnlike(t *testing.T) { // P13.3, P13.4: ErrNone
	x := filled(t, 3)
	was := x.All()
	for _, id := range []uint64{0, 4, 1 << 8, 1<<8 + 1, 1<<16 + 1, 1<<32 + 1, 1<<32 + 3, 1<<63 + 1, math.MaxUint64} {
		knowsNone(t, x, id)
	}
	leads(t, x, 9, out(1), api.ErrNone) // ahead of ErrThere
	holds(t, x, was...)
	finds(t, x, out(60000), 0, 0)
}

func TestLead(t *testing.T) { // P13.3, P13.4
	x := made(t, 3)
	adds(t, x, in(1), no, 1, 0)
	adds(t, x, in(2), out(2), 2, 0)
	leads(t, x, 1, out(1), api.OK)
	holds(t, x,
		table.Flow{Id: 1, Inner: in(1), Outer: out(1), Embryo: true},
		table.Flow{Id: 2, Inner: in(2), Outer: out(2), Embryo: true})

	leads(t, x, 1, out(3), api.OK) // another one: by the first it is found no more
	finds(t, x, out(1), 0, 0)
	finds(t, x, out(3), 0, 1)
	leads(t, x, 2, out(1), api.OK)
	finds(t, x, out(1), 0, 2)
	finds(t, x, out(2), 0, 0)

	leads(t, x, 1, out(3), api.OK) // its own
	leads(t, x, 1, no, api.OK)
	finds(t, x, out(3), 0, 0)
	leads(t, x, 1, no, api.OK)
	leads(t, x, 2, no, api.OK) // two of none
	holds(t, x,
		table.Flow{Id: 1, Inner: in(1), Embryo: true},
		table.Flow{Id: 2, Inner: in(2), Embryo: true})
	finds(t, x, out(1), 0, 0)
	finds(t, x, in(1), 1, 0)
	leads(t, x, 1, in(1), api.OK)
	finds(t, x, in(1), 1, 1)
	adds(t, x, in(3), out(3), 3, 0)
}

func TestLeadThere(t *testing.T) { // P13.3: ErrThere; R2
	x := filled(t, 3)
	readies(t, x, 1, api.OK)
	was := x.All()
	leads(t, x, 1, out(2), api.ErrThere)
	leads(t, x, 2, out(1), api.ErrThere)
	leads(t, x, 3, out(1), api.ErrThere)
	holds(t, x, was...)
	leads(t, x, 1, no, api.OK)
	leads(t, x, 1, out(2), api.ErrThere) // of one that has none
	holds(t, x, append([]table.Flow{{Id: 1, Inner: in(1)}}, was[1:]...)...)
	leads(t, x, 2, out(1), api.OK)
	finds(t, x, out(1), 0, 2)
	leads(t, x, 1, out(2), api.OK)
	finds(t, x, out(2), 0, 1)
}

// By the tuple that it was led to a flow is found till it goes, and not behind it.
func TestLeadGoes(t *testing.T) { // P13.3, P13.5
	x := filled(t, 2)
	leads(t, x, 1, out(8), api.OK)
	leads(t, x, 2, out(9), api.OK)
	adds(t, x, in(3), out(1), 3, 1)
	finds(t, x, out(8), 0, 0)
	finds(t, x, out(1), 0, 3)
	drops(t, x, 2, api.OK)
	finds(t, x, out(9), 0, 0)
	leads(t, x, 3, out(9), api.OK)
	holds(t, x, table.Flow{Id: 3, Inner: in(3), Outer: out(9), Embryo: true})
}

// What was told is the caller's own.
func TestAllNewMemory(t *testing.T) { // R3
	x := filled(t, 3)
	first := x.All()
	kept := slices.Clone(first)
	clear(first)
	first = append(first, table.Flow{Id: 77}, table.Flow{Id: 78})
	holds(t, x, kept...)
	second := x.All()
	touches(t, x, 1, api.OK)
	readies(t, x, 2, api.OK)
	leads(t, x, 3, out(9), api.OK)
	adds(t, x, in(4), no, 4, 3)
	drops(t, x, 2, api.OK)
	if !slices.Equal(second, kept) {
		t.Errorf("what was told became %v", second)
	}
	if first[0] != (table.Flow{}) || first[3].Id != 77 {
		t.Errorf("what was told became %v", first)
	}
	f, _ := x.Flow(1)
	f.Inner, f.Embryo = no, false
	holds(t, x,
		table.Flow{Id: 1, Inner: in(1), Outer: out(1), Embryo: true},
		table.Flow{Id: 4, Inner: in(4), Embryo: true})
}

// Each of two lives on as if there were no other.
func TestCopyApart(t *testing.T) { // P13.1
	x := filled(t, 3)
	drops(t, x, 2, api.OK)
	adds(t, x, in(5), no, 4, 0)
	readies(t, x, 1, api.OK)
	was := []table.Flow{
		{Id: 1, Inner: in(1), Outer: out(1)},
		{Id: 3, Inner: in(3), Outer: out(3), Embryo: true},
		{Id: 4, Inner: in(5), Embryo: true}}
	c := x.Copy()
	holds(t, c, was...)

	touches(t, c, 1, api.OK)
	readies(t, c, 3, api.OK)
	leads(t, c, 4, out(9), api.OK)
	drops(t, c, 1, api.OK)
	holds(t, x, was...)
	finds(t, x, out(9), 0, 0)
	left := []table.Flow{
		{Id: 3, Inner: in(3), Outer: out(3)},
		{Id: 4, Inner: in(5), Outer: out(9), Embryo: true}}
	holds(t, c, left...)

	adds(t, x, in(6), out(6), 5, 3) // of both the same ids, and as many, are to come
	leads(t, x, 4, out(8), api.OK)
	drops(t, x, 1, api.OK)
	holds(t, c, left...)
	finds(t, c, in(6), 0, 0)
	finds(t, c, out(8), 0, 0)
	finds(t, c, out(1), 0, 0)
	adds(t, c, in(7), out(7), 5, 0)
	adds(t, c, in(8), out(8), 6, 4)
	holds(t, x,
		table.Flow{Id: 4, Inner: in(5), Outer: out(8), Embryo: true},
		table.Flow{Id: 5, Inner: in(6), Outer: out(6), Embryo: true})
	adds(t, x, in(9), no, 6, 0)
	adds(t, x, in(10), no, 7, 4)
}

// Copies of copies, and of tables without flows, are tables as well.
func TestCopyOfCopy(t *testing.T) { // P13.1
	c := made(t, 2).Copy().Copy()
	holds(t, c)
	adds(t, c, in(1), out(1), 1, 0)
	drops(t, c, 1, api.OK)
	d := c.Copy()
	holds(t, d)
	adds(t, d, in(1), out(1), 2, 0)
	adds(t, d, in(2), out(2), 3, 0)
	e := d.Copy()
	adds(t, e, in(3), out(3), 4, 2)
	ordered(t, c)
	ordered(t, d, 2, 3)
	ordered(t, e, 3, 4)
}

// model is a table as the document's words have it, without any thrift.
type model struct {
	most  int
	given uint64
	flows []table.Flow
}

func (m *model) copy() *model {
	return &model{m.most, m.given, slices.Clone(m.flows)}
}

// first tells the first place of a flow of that kind, or -1.
func (m *model) first(is func(f table.Flow) bool) int {
	return slices.IndexFunc(m.flows, is)
}

// of tells the place of the flow of an id, or -1.
func (m *model) of(id uint64) int {
	return m.first(func(f table.Flow) bool { return f.Id == id })
}

// inner and outer tell the id of a tuple's flow, or 0.
func (m *model) inner(x api.Tuple) uint64 {
	return m.id(m.first(func(f table.Flow) bool { return x != no && f.Inner == x }))
}

func (m *model) outer(x api.Tuple) uint64 {
	return m.id(m.first(func(f table.Flow) bool { return x != no && f.Outer == x }))
}

func (m *model) id(i int) uint64 {
	if i < 0 {
		return 0
	}
	return m.flows[i].Id
}

func (m *model) Add(inner, outer api.Tuple) (uint64, uint64, api.Errno) {
	if inner == no {
		return 0, 0, api.ErrArg
	}
	if m.inner(inner) != 0 || m.outer(outer) != 0 {
		return 0, 0, api.ErrThere
	}
	var went uint64
	if len(m.flows) == m.most {
		i := m.first(func(f table.Flow) bool { return f.Embryo })
		if i < 0 {
			return 0, 0, api.ErrFull
		}
		went = m.flows[i].Id
		m.change(went, func(f table.Flow) []table.Flow { return nil })
	}
	m.given++
	m.flows = append(m.flows, table.Flow{Id: m.given, Inner: inner, Outer: outer, Embryo: true})
	return m.given, went, api.OK
}

func (m *model) Lead(id uint64, outer api.Tuple) api.Errno {
	i := m.of(id)
	if i < 0 {
		return api.ErrNone
	}
	if has := m.outer(outer); has != 0 && has != id {
		return api.ErrThere
	}
	m.flows[i].Outer = outer
	return api.OK
}

func (m *model) Ready(id uint64) api.Errno {
	i := m.of(id)
	if i < 0 {
		return api.ErrNone
	}
	m.flows[i].Embryo = false
	return api.OK
}

// change takes a flow out of its place, and puts what to tells at the end.
func (m *model) change(id uint64, to func(f table.Flow) []table.Flow) api.Errno {
	i := m.of(id)
	if i < 0 {
		return api.ErrNone
	}
	f := m.flows[i]
	var left []table.Flow
	for _, g := range m.flows {
		if g.Id != id {
			left = append(left, g)
		}
	}
	m.flows = append(left, to(f)...)
	return api.OK
}

func (m *model) Touch(id uint64) api.Errno {
	return m.change(id, func(f table.Flow) []table.Flow { return []table.Flow{f} })
}

func (m *model) Drop(id uint64) api.Errno {
	return m.change(id, func(f table.Flow) []table.Flow { return nil })
}

// both are a table and the model of it.
type both struct {
	x *table.Table
	m *model
}

func (b both) copy() both {
	return both{b.x.Copy(), b.m.copy()}
}

// tuple makes one of few: so they meet, also across the sides.
func (b both) tuple(c *chance) api.Tuple {
	n := c.below(2 * b.m.most)
	switch c.below(5) {
	case 0:
		return no
	case 1, 2:
		return in(n)
	}
	return out(n)
}

// id makes one of a flow, of one that went, or of none.
func (b both) id(c *chance) uint64 {
	if n := len(b.m.flows); n > 0 && c.below(4) > 0 {
		return b.m.flows[c.below(n)].Id
	}
	return uint64(c.below(int(b.m.given) + 3))
}

// step does any one thing with both.
func (b both) step(t *testing.T, c *chance) {
	t.Helper()
	id, inner, outer := b.id(c), b.tuple(c), b.tuple(c)
	var e, f api.Errno
	switch c.below(10) {
	case 0, 1, 2, 3:
		var got, want, gone, went uint64
		got, gone, e = b.x.Add(inner, outer)
		want, went, f = b.m.Add(inner, outer)
		if got != want || gone != went || e != f {
			t.Fatalf("Add(%v, %v) = %d, %d, %d; want %d, %d, %d", inner, outer, got, gone, e, want, went, f)
		}
	case 4, 5:
		e, f = b.x.Lead(id, outer), b.m.Lead(id, outer)
	case 6, 7:
		e, f = b.x.Touch(id), b.m.Touch(id)
	case 8:
		e, f = b.x.Ready(id), b.m.Ready(id)
	case 9:
		e, f = b.x.Drop(id), b.m.Drop(id)
	}
	if e != f {
		t.Fatalf("of %d, %v: %d, want %d", id, outer, e, f)
	}
	finds(t, b.x, inner, b.m.inner(inner), b.m.outer(inner))
	finds(t, b.x, outer, b.m.inner(outer), b.m.outer(outer))
}

// same holds what is asked of the table against the model, and the model against
// P13.5.
func (b both) same(t *testing.T) {
	t.Helper()
	holds(t, b.x, b.m.flows...)
	for n := range 2 * b.m.most {
		finds(t, b.x, in(n), b.m.inner(in(n)), b.m.outer(in(n)))
		finds(t, b.x, out(n), b.m.inner(out(n)), b.m.outer(out(n)))
	}
	if len(b.m.flows) > b.m.most {
		t.Errorf("%d flows, at most are %d", len(b.m.flows), b.m.most)
	}
	seen := map[api.Tuple]int{}
	for _, f := range b.m.flows {
		seen[f.Inner] |= 1
		if f.Outer != no {
			if seen[f.Outer]&2 != 0 {
				t.Errorf("two flows have the outer tuple %v", f.Outer)
			}
			seen[f.Outer] |= 2
		}
	}
	if t.Failed() {
		t.FailNow()
	}
}

// started makes a table and its model.
func started(t *testing.T, most int) both {
	return both{made(t, most), &model{most: most}}
}

func TestAnything(t *testing.T) { // P13.1 to P13.6
	for n, most := range []int{1, 2, 3, 4, 5, 8, 13, 40} {
		for m := range 5 {
			b, c := started(t, most), chance(100*n+m)
			for i := range 2000 {
				b.step(t, &c)
				if i%16 == 0 {
					b.same(t)
				}
			}
			b.same(t)
		}
	}
}

func TestAnythingWithCopies(t *testing.T) { // P13.1
	for n := range 20 {
		c := chance(1000 + n)
		all := []both{started(t, 1+n%6)}
		for range 400 {
			for _, b := range all {
				b.step(t, &c)
			}
			switch c.below(10) {
			case 0:
				all = append(all, all[c.below(len(all))].copy())
			case 1:
				all = slices.Delete(all, 0, len(all)/4)
			}
		}
		for _, b := range all {
			b.same(t)
		}
	}
}

func TestAnythingOfMany(t *testing.T) { // P13.1 to P13.6, as many as there may be
	b, c := started(t, api.MaxFlows), chance(77)
	for range 20000 {
		b.step(t, &c)
	}
	b.same(t)
	if len(b.m.flows) < api.MaxFlows/4 {
		t.Errorf("only %d flows", len(b.m.flows))
	}
}
