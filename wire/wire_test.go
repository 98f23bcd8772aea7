package wire_test

import (
	"bytes"
	"errors"
	"math"
	"runtime"
	"slices"
	"testing"

	"culvert/api"
	"culvert/wire"
)

// taken tells what do panics with; nil, if it does not.
func taken(do func()) (v any) {
	defer func() { v = recover() }()
	do()
	return nil
}

// check holds what Read tells of b and do against want, and b against what it
// was.
func check(t *testing.T, name string, b []byte, want api.Errno, do func(r *wire.Reader)) {
	t.Helper()
	before := bytes.Clone(b)
	if got := wire.Read(b, do); got != want {
		t.Errorf("%s: Read tells %d, want %d", name, got, want)
	}
	if !bytes.Equal(b, before) {
		t.Errorf("%s: % x became % x", name, before, b)
	}
}

// place holds how far r is against at and left.
func place(t *testing.T, r *wire.Reader, at, left int) {
	t.Helper()
	if r.At() != at || r.Left() != left {
		t.Errorf("At %d, Left %d, want %d, %d", r.At(), r.Left(), at, left)
	}
}

// dead holds r against what a reader that is shut does: nothing.
func dead(t *testing.T, name string, r *wire.Reader) {
	t.Helper()
	v := taken(func() {
		if r.U8() != 0 || r.U16() != 0 || r.U32() != 0 {
			t.Errorf("%s: a number is not 0", name)
		}
		for _, n := range []int{math.MinInt, -1, 0, 1, math.MaxInt} {
			if len(r.Bytes(n)) != 0 {
				t.Errorf("%s: Bytes(%d) tells some", name, n)
			}
		}
		if len(r.Rest()) != 0 || r.Left() != 0 || r.At() != 0 {
			t.Errorf("%s: something was read, or is left", name)
		}
		r.End()
		r.Fail(api.OK)
		r.Fail(api.ErrForm)
	})
	if v != nil {
		t.Errorf("%s: panics with %v", name, v)
	}
}

func TestReadOfNoFunction(t *testing.T) { // P3.1
	for _, b := range [][]byte{nil, {}, {1, 2}} {
		if got := wire.Read(b, nil); got != api.ErrArg {
			t.Errorf("Read(%v, nil) = %d", b, got)
		}
	}
}

func TestReadOnce(t *testing.T) { // P3.1
	for _, b := range [][]byte{nil, {}, {7}, {7, 8}} {
		times := 0
		check(t, "once", b, api.OK, func(r *wire.Reader) {
			times++
			place(t, r, 0, len(b))
			if got := r.Rest(); !bytes.Equal(got, b) {
				t.Errorf("of %v: %v", b, got)
			}
		})
		if times != 1 {
			t.Errorf("of %v done %d times", b, times)
		}
	}
}

func TestReadOfACopy(t *testing.T) { // P3.1
	b := []byte{1, 2, 3, 4, 5}
	e := wire.Read(b, func(r *wire.Reader) {
		copy(b, []byte{9, 9, 9, 9, 9})
		if got := r.U16(); got != 0x0102 {
			t.Errorf("U16 = %04x", got)
		}
		clear(b)
		if got := r.Rest(); !bytes.Equal(got, []byte{3, 4, 5}) {
			t.Errorf("Rest = %v", got)
		}
	})
	if e != api.OK {
		t.Error(e)
	}
}

func TestReadOfAPart(t *testing.T) { // P3.1: what b has room for is not its
	b := []byte{1, 2, 3, 4}
	check(t, "a part", b[:2], api.ErrShort, func(r *wire.Reader) {
		place(t, r, 0, 2)
		r.Bytes(3)
		t.Error("done further")
	})
}

func TestNumbers(t *testing.T) { // P3.2
	b := []byte{0x81, 0x02, 0xf3, 0xfe, 0xdc, 0xba, 0x98, 0, 0x80, 0xff, 0xff, 0, 0, 0, 1}
	check(t, "numbers", b, api.OK, func(r *wire.Reader) {
		place(t, r, 0, 15)
		if got := r.U8(); got != 0x81 {
			t.Errorf("U8 = %02x", got)
		}
		place(t, r, 1, 14)
		if got := r.U16(); got != 0x02f3 {
			t.Errorf("U16 = %04x", got)
		}
		place(t, r, 3, 12)
		if got := r.U32(); got != 0xfedcba98 {
			t.Errorf("U32 = %08x", got)
		}
		place(t, r, 7, 8)
		if a, b, c, d := r.U8(), r.U8(), r.U16(), r.U32(); a != 0 || b != 0x80 || c != 0xffff || d != 1 {
			t.Errorf("%02x, %02x, %04x, %08x", a, b, c, d)
		}
		place(t, r, 15, 0)
		r.End()
	})
}

func TestBytesAndRest(t *testing.T) { // P3.2
	check(t, "bytes", []byte{1, 2, 3, 4, 5, 6}, api.OK, func(r *wire.Reader) {
		for _, x := range []struct {
			n        int
			want     []byte
			at, left int
		}{{0, nil, 0, 6}, {2, []byte{1, 2}, 2, 4}, {0, nil, 2, 4}, {1, []byte{3}, 3, 3}} {
			if got := r.Bytes(x.n); !bytes.Equal(got, x.want) {
				t.Errorf("Bytes(%d) = %v, want %v", x.n, got, x.want)
			}
			place(t, r, x.at, x.left)
		}
		if got := r.Rest(); !bytes.Equal(got, []byte{4, 5, 6}) {
			t.Errorf("Rest = %v", got)
		}
		place(t, r, 6, 0)
		if len(r.Rest()) != 0 || len(r.Bytes(0)) != 0 {
			t.Error("there is more than all")
		}
		place(t, r, 6, 0)
	})
	check(t, "all", []byte{1, 2}, api.OK, func(r *wire.Reader) {
		if got := r.Bytes(2); !bytes.Equal(got, []byte{1, 2}) {
			t.Errorf("Bytes(2) = %v", got)
		}
	})
}

func TestBytesAreNew(t *testing.T) { // P3.2
	b := []byte{1, 2, 3, 4, 5, 6}
	var kept [][]byte
	check(t, "new", b, api.OK, func(r *wire.Reader) {
		for _, one := range [][]byte{r.Bytes(2), r.Bytes(2)} {
			whole := one[:cap(one)]
			for i := range whole {
				whole[i] = 9
			}
			kept = append(kept, one)
		}
		kept = append(kept, r.Rest())
	})
	if want := [][]byte{{9, 9}, {9, 9}, {5, 6}}; !slices.EqualFunc(kept, want, bytes.Equal) {
		t.Errorf("kept %v", kept)
	}
	var one, two []byte
	wire.Read(b, func(r *wire.Reader) { one = r.Rest() })
	wire.Read(b, func(r *wire.Reader) { two = r.Rest() })
	clear(one)
	if !bytes.Equal(two, b) {
		t.Errorf("two readings share memory: %v", two)
	}
}

// asks are the calls that ask for a number of bytes, and that number.
var asks = []struct {
	name string
	n    int
	do   func(r *wire.Reader)
}{
	{"U8", 1, func(r *wire.Reader) { r.U8() }},
	{"U16", 2, func(r *wire.Reader) { r.U16() }},
	{"U32", 4, func(r *wire.Reader) { r.U32() }},
	{"Bytes(1)", 1, func(r *wire.Reader) { r.Bytes(1) }},
	{"Bytes(5)", 5, func(r *wire.Reader) { r.Bytes(5) }},
	{"Bytes(1000)", 1000, func(r *wire.Reader) { r.Bytes(1000) }},
	{"Bytes(greatest)", math.MaxInt, func(r *wire.Reader) { r.Bytes(math.MaxInt) }},
}

func TestShort(t *testing.T) { // P3.2
	for _, ask := range asks {
		for long := range 8 {
			for from := range long + 1 {
				want := api.OK
				if long-from < ask.n {
					want = api.ErrShort
				}
				further := false
				check(t, ask.name, make([]byte, long), want, func(r *wire.Reader) {
					r.Bytes(from)
					ask.do(r)
					further = true
					place(t, r, from+ask.n, long-from-ask.n)
				})
				if further != (want == api.OK) {
					t.Errorf("%s of %d from %d on: done further: %v", ask.name, long, from, further)
				}
			}
		}
	}
}

func TestWhatIsTooLittleIsNotRead(t *testing.T) { // P3.2
	for _, ask := range asks[1:3] {
		check(t, ask.name, []byte{1, 2}, api.ErrShort, func(r *wire.Reader) {
			defer func() { place(t, r, 1, 1) }()
			r.U8()
			ask.do(r)
		})
	}
}

func TestBytesBelowNought(t *testing.T) { // P3.2
	for _, n := range []int{-1, -2, -1000, math.MinInt} {
		for _, b := range [][]byte{nil, {1}, {1, 2, 3}} {
			check(t, "below", b, api.ErrArg, func(r *wire.Reader) {
				r.Bytes(n)
				t.Errorf("Bytes(%d): done further", n)
			})
		}
	}
	check(t, "below, behind some", []byte{1, 2, 3}, api.ErrArg, func(r *wire.Reader) {
		r.U16()
		r.Bytes(-1)
		t.Error("done further")
	})
}

func TestEnd(t *testing.T) { // P3.3
	for long := range 6 {
		for from := range long + 1 {
			want := api.OK
			if from < long {
				want = api.ErrLong
			}
			further := false
			check(t, "end", make([]byte, long), want, func(r *wire.Reader) {
				r.Bytes(from)
				r.End()
				r.End()
				further = true
			})
			if further != (want == api.OK) {
				t.Errorf("End at %d of %d: done further: %v", from, long, further)
			}
		}
	}
}

func TestFail(t *testing.T) { // P3.3
	for _, e := range []api.Errno{api.ErrArg, api.ErrNil, api.ErrLong, api.ErrShort, api.ErrForm, api.ErrSum, api.ErrDeny, -1, 1000} {
		check(t, "fail", []byte{1}, e, func(r *wire.Reader) {
			r.Fail(e)
			t.Errorf("Fail(%d): done further", e)
		})
		check(t, "fail of nothing", nil, e, func(r *wire.Reader) {
			r.Fail(api.OK)
			r.Fail(e)
			t.Errorf("Fail(%d): done further", e)
		})
	}
	further := false
	check(t, "no fail", []byte{1, 2}, api.OK, func(r *wire.Reader) {
		r.Fail(api.OK)
		place(t, r, 0, 2)
		further = r.U16() == 0x0102
		r.Fail(api.OK)
	})
	if !further {
		t.Error("Fail(OK): nothing further done")
	}
}

func TestExamples(t *testing.T) {
	var one byte
	var two uint16
	check(t, "U8, U16, End", []byte{1, 2, 3}, api.OK, func(r *wire.Reader) {
		one, two = r.U8(), r.U16()
		r.End()
	})
	if one != 1 || two != 515 {
		t.Errorf("%d, %d", one, two)
	}
	check(t, "U16, U16", []byte{1, 2, 3}, api.ErrShort, func(r *wire.Reader) {
		two = r.U16()
		two = r.U16()
	})
	if two != 258 {
		t.Error(two)
	}
	check(t, "Fail, U8", []byte{1}, api.ErrSum, func(r *wire.Reader) {
		r.Fail(api.ErrSum)
		r.U8()
		t.Error("U8 is done")
	})
}

func TestReadingWithin(t *testing.T) { // P3.1: each gives up for itself
	further := false
	check(t, "outer", []byte{1, 2, 3}, api.OK, func(r *wire.Reader) {
		r.U8()
		check(t, "inner", []byte{7, 8}, api.ErrShort, func(s *wire.Reader) {
			if a, b := r.U8(), s.U8(); a != 2 || b != 7 {
				t.Errorf("%d, %d", a, b)
			}
			place(t, r, 2, 1)
			s.U16()
			t.Error("done further")
		})
		place(t, r, 2, 1)
		further = r.U8() == 3
		r.End()
	})
	if !further {
		t.Error("the inner reading's error ended the outer one")
	}
}

func TestFailOfTheOuter(t *testing.T) { // P3.1
	gives := map[api.Errno]func(r *wire.Reader){
		api.ErrShort: func(r *wire.Reader) { r.U32() },
		api.ErrLong:  func(r *wire.Reader) { r.End() },
		api.ErrArg:   func(r *wire.Reader) { r.Bytes(-1) },
		api.ErrForm:  func(r *wire.Reader) { r.Fail(api.ErrForm) },
	}
	for want, give := range gives {
		var readers [3]*wire.Reader
		check(t, "first", []byte{1}, want, func(r *wire.Reader) {
			readers[0] = r
			wire.Read([]byte{2, 3}, func(s *wire.Reader) {
				readers[1] = s
				wire.Read(nil, func(u *wire.Reader) {
					readers[2] = u
					give(r)
					t.Error("third: done further")
				})
				t.Error("second: done further")
			})
			t.Error("first: done further")
		})
		for _, r := range readers {
			dead(t, "given up within", r)
		}
	}
}

func TestFailOfTheMiddle(t *testing.T) { // P3.1
	further := false
	check(t, "first", []byte{1}, api.OK, func(r *wire.Reader) {
		check(t, "second", []byte{2, 3}, api.ErrSum, func(s *wire.Reader) {
			wire.Read(nil, func(u *wire.Reader) {
				s.Fail(api.ErrSum)
				t.Error("third: done further")
			})
			t.Error("second: done further")
		})
		further = r.U8() == 1
	})
	if !further {
		t.Error("the middle one's error ended the outer one")
	}
}

func TestFailWithinAnErrorOfTheInner(t *testing.T) { // P3.1
	check(t, "outer", nil, api.ErrForm, func(r *wire.Reader) {
		wire.Read(nil, func(s *wire.Reader) {
			defer func() { r.Fail(api.ErrForm) }()
			s.U8()
		})
		t.Error("done further")
	})
}

func TestFailThroughManyReadings(t *testing.T) { // P3.1, and 2^16 levels
	levels := 0
	var first *wire.Reader
	var deeper func(r *wire.Reader)
	deeper = func(r *wire.Reader) {
		if levels++; levels == 1 {
			first = r
		}
		if levels == 1<<16 {
			first.Fail(api.ErrSum)
		}
		wire.Read(nil, deeper)
		t.Fatal("done further")
	}
	if got := wire.Read(nil, deeper); got != api.ErrSum || levels != 1<<16 {
		t.Errorf("Read = %d behind %d levels", got, levels)
	}
}

func TestOtherPanicsGoOn(t *testing.T) { // P3.1
	for _, want := range []any{"text", 7, api.ErrForm, api.OK, errors.New("error"), []int{1}, struct{}{}} {
		var outer, inner *wire.Reader
		got := taken(func() {
			wire.Read([]byte{1}, func(r *wire.Reader) {
				outer = r
				wire.Read([]byte{2}, func(s *wire.Reader) {
					inner = s
					r.U8()
					panic(want)
				})
				t.Error("inner: done further")
			})
			t.Error("outer: done further")
		})
		if l, list := want.([]int); list {
			if g, same := got.([]int); !same || &g[0] != &l[0] {
				t.Errorf("goes on as %v", got)
			}
		} else if got != want {
			t.Errorf("%v goes on as %v", want, got)
		}
		dead(t, "panicked, outer", outer)
		dead(t, "panicked, inner", inner)
	}
}

func TestFaultsGoOn(t *testing.T) { // P3.1
	none := []int{}
	v := taken(func() { wire.Read(nil, func(r *wire.Reader) { none[len(none)]++ }) })
	if e, ok := v.(runtime.Error); !ok {
		t.Errorf("an index out of range goes on as %v", e)
	}
	v = taken(func() { wire.Read(nil, func(r *wire.Reader) { panic(nil) }) })
	if _, ok := v.(*runtime.PanicNilError); !ok {
		t.Errorf("a panic of nil goes on as %v", v)
	}
	var kept *wire.Reader
	done := make(chan bool)
	ended := true
	go func() {
		defer close(done)
		wire.Read([]byte{1}, func(r *wire.Reader) {
			kept = r
			runtime.Goexit()
		})
		ended = false
	}()
	<-done
	if !ended {
		t.Error("a goroutine that ends itself does not end")
	}
	dead(t, "ended", kept)
}

func TestPanicWhileGivingUp(t *testing.T) { // P3.1
	var kept *wire.Reader
	v := taken(func() {
		wire.Read(nil, func(r *wire.Reader) {
			kept = r
			defer func() { panic("other") }()
			r.U8()
		})
		t.Error("done further")
	})
	if v != "other" {
		t.Errorf("goes on as %v", v)
	}
	dead(t, "panicked while it gave up", kept)
}

func TestGivenUpThoughTaken(t *testing.T) { // P3.1: the function takes the panic itself
	for _, x := range []struct {
		name  string
		first func(r *wire.Reader)
		want  api.Errno
	}{
		{"U32", func(r *wire.Reader) { r.U32() }, api.ErrShort},
		{"End", func(r *wire.Reader) { r.End() }, api.ErrLong},
		{"Bytes", func(r *wire.Reader) { r.Bytes(-1) }, api.ErrArg},
		{"Fail", func(r *wire.Reader) { r.Fail(api.ErrSum) }, api.ErrSum},
	} {
		check(t, x.name+", then nothing", []byte{1, 2}, x.want, func(r *wire.Reader) {
			taken(func() { x.first(r) })
		})
		check(t, x.name+", then the same again", []byte{1, 2}, x.want, func(r *wire.Reader) {
			if v := taken(func() { x.first(r) }); v != nil {
				panic(v)
			}
		})
		for _, ask := range asks[:5] {
			check(t, x.name+", then "+ask.name, []byte{1, 2}, x.want, func(r *wire.Reader) {
				taken(func() { x.first(r) })
				ask.do(r)
				t.Errorf("%s, then %s: done further", x.name, ask.name)
			})
		}
		check(t, x.name+", then Fail", []byte{1, 2}, x.want, func(r *wire.Reader) {
			taken(func() { x.first(r) })
			r.Fail(api.ErrStale)
			t.Errorf("%s, then Fail: done further", x.name)
		})
		other := []int{1} // of a kind that can't be held against others
		v := taken(func() {
			wire.Read([]byte{1, 2}, func(r *wire.Reader) {
				taken(func() { x.first(r) })
				panic(other)
			})
		})
		if got, ok := v.([]int); !ok || &got[0] != &other[0] {
			t.Errorf("%s, then another panic, which goes on as %v", x.name, v)
		}
	}
}

func TestOuterTakenWithinTheInner(t *testing.T) { // P3.1
	check(t, "outer", nil, api.ErrSum, func(r *wire.Reader) {
		check(t, "inner", []byte{1}, api.OK, func(s *wire.Reader) {
			taken(func() { r.Fail(api.ErrSum) })
			if s.U8() != 1 {
				t.Error("the inner one does not read on")
			}
		})
	})
}

func TestReadWhileSomethingPanics(t *testing.T) { // P3.1: a reading takes its own panic alone
	v := taken(func() {
		defer func() {
			check(t, "OK", []byte{1}, api.OK, func(r *wire.Reader) { r.U8() })
			check(t, "ErrShort", nil, api.ErrShort, func(r *wire.Reader) { r.U8() })
			check(t, "taken", nil, api.ErrShort, func(r *wire.Reader) { taken(func() { r.U8() }) })
		}()
		panic("other")
	})
	if v != "other" {
		t.Errorf("the panic goes on as %v", v)
	}
}

func TestShut(t *testing.T) { // P3.4
	dead(t, "none", nil)
	dead(t, "zero", &wire.Reader{})
	dead(t, "new", new(wire.Reader))

	var kept *wire.Reader
	var copied wire.Reader
	wire.Read([]byte{1, 2, 3}, func(r *wire.Reader) {
		kept, copied = r, *r
		dead(t, "a copy", &copied)
		place(t, r, 0, 3)
		r.U8()
	})
	dead(t, "behind its reading", kept)
	dead(t, "a copy, behind its reading", &copied)

	wire.Read([]byte{1, 2, 3}, func(r *wire.Reader) {
		kept, copied = r, *r
		r.Bytes(4)
	})
	dead(t, "given up", kept)
	dead(t, "a copy of one that gave up", &copied)
	copied = *kept
	dead(t, "a copy of one that is shut", &copied)
}

func TestShutWithinAnother(t *testing.T) { // P3.4
	var kept *wire.Reader
	wire.Read([]byte{1, 2, 3}, func(r *wire.Reader) { kept = r })
	further := false
	check(t, "another", []byte{4}, api.OK, func(r *wire.Reader) {
		dead(t, "shut", kept)
		dead(t, "none", nil)
		dead(t, "zero", &wire.Reader{})
		further = r.U8() == 4
	})
	if !further {
		t.Error("not done to its end")
	}
	check(t, "shut within", []byte{4}, api.OK, func(r *wire.Reader) {
		wire.Read([]byte{5}, func(s *wire.Reader) { kept = s })
		dead(t, "shut within", kept)
		place(t, r, 0, 1)
	})
}

func TestLay(t *testing.T) { // P3.5
	for _, x := range []struct {
		name      string
		got, want []byte
	}{
		{"U8", wire.U8(nil, 0), []byte{0}},
		{"U8", wire.U8([]byte{}, 255), []byte{255}},
		{"U8", wire.U8([]byte{1, 2}, 0x83), []byte{1, 2, 0x83}},
		{"U16", wire.U16(nil, 0), []byte{0, 0}},
		{"U16", wire.U16([]byte{7}, 0x8102), []byte{7, 0x81, 2}},
		{"U16", wire.U16([]byte{}, math.MaxUint16), []byte{255, 255}},
		{"U32", wire.U32(nil, 0), []byte{0, 0, 0, 0}},
		{"U32", wire.U32([]byte{7, 8, 9}, 0xf1e2d3c4), []byte{7, 8, 9, 0xf1, 0xe2, 0xd3, 0xc4}},
		{"U32", wire.U32(nil, math.MaxUint32), []byte{255, 255, 255, 255}},
		{"U32", wire.U32(nil, 258), []byte{0, 0, 1, 2}},
	} {
		if !bytes.Equal(x.got, x.want) {
			t.Errorf("%s: % x, want % x", x.name, x.got, x.want)
		}
	}
}

func TestLaidIsNew(t *testing.T) { // P3.5, R3
	lays := []func(b []byte) []byte{
		func(b []byte) []byte { return wire.U8(b, 7) },
		func(b []byte) []byte { return wire.U16(b, 0x0707) },
		func(b []byte) []byte { return wire.U32(b, 0x07070707) },
	}
	for i, lay := range lays {
		all := []byte{1, 2, 3, 4, 5, 6, 7, 8, 9}
		whole := bytes.Clone(all)
		for from := range 5 { // with room behind it
			b := all[:from]
			one, two := lay(b), lay(b)
			if !bytes.Equal(all, whole) {
				t.Fatalf("%d: what stands behind b became % x", i, all)
			}
			clear(one[:cap(one)])
			if !bytes.Equal(all, whole) || !bytes.Equal(two[:from], whole[:from]) || two[from] != 7 {
				t.Errorf("%d: % x and % x share memory with another", i, all, two)
			}
		}
	}
}

// numbers are some at which something turns.
var numbers = []uint32{0, 1, 127, 128, 255, 256, 257, 0x7fff, 0x8000, 0xffff, 0x10000, 0xffffff, 0x1000000, 1<<31 - 1, 1 << 31, math.MaxUint32}

func TestReadAsLaid(t *testing.T) { // P3.6
	var b []byte
	for _, n := range numbers {
		b = wire.U32(wire.U8(wire.U16(b, uint16(n)), byte(n)), n)
	}
	check(t, "laid", b, api.OK, func(r *wire.Reader) {
		for _, n := range numbers {
			if a, b, c := r.U16(), r.U8(), r.U32(); a != uint16(n) || b != byte(n) || c != n {
				t.Errorf("%08x: %04x, %02x, %08x", n, a, b, c)
			}
		}
		r.End()
	})
}

func TestLaidAsRead(t *testing.T) { // P3.6
	b := []byte{0xfe, 0, 1, 0x80, 0, 0, 0, 0x7f, 0xff, 9, 8}
	var again []byte
	check(t, "read", b, api.OK, func(r *wire.Reader) {
		again = wire.U8(again, r.U8())
		again = wire.U32(again, r.U32())
		again = wire.U16(again, r.U16())
		again = append(again, r.Rest()...)
	})
	if !bytes.Equal(again, b) {
		t.Errorf("% x, laid again: % x", b, again)
	}
}

func TestBeginnings(t *testing.T) { // P3.6
	b := []byte{9, 1, 2, 3, 4, 5, 6, 7, 8, 10, 11, 12}
	// steps tells all that is read of some bytes, step by step.
	steps := func(b []byte) (told [][]byte, e api.Errno) {
		e = wire.Read(b, func(r *wire.Reader) {
			told = append(told, []byte{r.U8(), byte(r.At())})
			told = append(told, wire.U16(nil, r.U16()))
			told = append(told, append(r.Bytes(3), byte(r.At())))
			told = append(told, wire.U32(nil, r.U32()))
			told = append(told, r.Bytes(2))
			r.End()
		})
		return told, e
	}
	whole, e := steps(b)
	if e != api.OK || len(whole) != 5 {
		t.Fatal(whole, e)
	}
	for n := range b {
		ends := 0
		for _, long := range []int{1, 3, 6, 10} {
			if n >= long {
				ends++
			}
		}
		told, e := steps(b[:n])
		if e != api.ErrShort || !slices.EqualFunc(told, whole[:ends], bytes.Equal) {
			t.Errorf("of %d bytes: %v, %d", n, told, e)
		}
	}
	told, e := steps(append(bytes.Clone(b), 1))
	if e != api.ErrLong || !slices.EqualFunc(told, whole, bytes.Equal) {
		t.Errorf("of a byte more: %v, %d", told, e)
	}
}
