package wheel_test

import (
	"cmp"
	"slices"
	"testing"

	"culvert/api"
	"culvert/wheel"
)

// chance makes numbers that look like chance, always the same ones.
type chance uint64

func (c *chance) next() uint64 {
	*c = *c*6364136223846793005 + 1442695040888963407
	return uint64(*c) >> 32
}

// below makes a number below n.
func (c *chance) below(n int) int {
	return int(c.next() % uint64(n))
}

// alarm is an id and an instant.
type alarm struct {
	id, at uint64
}

// sets holds what Set tells against an error.
func sets(t *testing.T, w *wheel.Wheel, id, at uint64, want api.Errno) {
	t.Helper()
	if e := w.Set(id, at); e != want {
		t.Errorf("Set(%d, %d) = %d, want %d", id, at, e, want)
	}
}

// stops holds what Stop tells against an error.
func stops(t *testing.T, w *wheel.Wheel, id uint64, want api.Errno) {
	t.Helper()
	if e := w.Stop(id); e != want {
		t.Errorf("Stop(%d) = %d, want %d", id, e, want)
	}
}

// ticks holds what Tick tells against ids.
func ticks(t *testing.T, w *wheel.Wheel, now uint64, ids ...uint64) {
	t.Helper()
	if got, e := w.Tick(now); !slices.Equal(got, ids) || e != api.OK {
		t.Errorf("Tick(%d) = %d, %d; want %d, 0", now, got, e, ids)
	}
}

// ticksNone holds what Tick tells against an error.
func ticksNone(t *testing.T, w *wheel.Wheel, now uint64, want api.Errno) {
	t.Helper()
	if got, e := w.Tick(now); len(got) != 0 || e != want {
		t.Errorf("Tick(%d) = %d, %d; want none, %d", now, got, e, want)
	}
}

// next holds what Next tells against an instant.
func next(t *testing.T, w *wheel.Wheel, want uint64) {
	t.Helper()
	if got, is := w.Next(); got != want || !is {
		t.Errorf("Next() = %d, %v; want %d, true", got, is, want)
	}
}

// at holds what At tells against an instant.
func at(t *testing.T, w *wheel.Wheel, id, want uint64) {
	t.Helper()
	if got, is := w.At(id); got != want || !is {
		t.Errorf("At(%d) = %d, %v; want %d, true", id, got, is, want)
	}
}

// atNone asks whether At tells that there is no alarm.
func atNone(t *testing.T, w *wheel.Wheel, id uint64) {
	t.Helper()
	if got, is := w.At(id); got != 0 || is {
		t.Errorf("At(%d) = %d, %v; want 0, false", id, got, is)
	}
}

// holds asks whether a wheel is at now, and has just these alarms.
func holds(t *testing.T, w *wheel.Wheel, now uint64, alarms ...alarm) {
	t.Helper()
	if got := w.Now(); got != now {
		t.Errorf("Now() = %d, want %d", got, now)
	}
	if got := w.Len(); got != len(alarms) {
		t.Errorf("Len() = %d, want %d", got, len(alarms))
	}
	for _, a := range alarms {
		at(t, w, a.id, a.at)
	}
	if len(alarms) > 0 {
		next(t, w, slices.MinFunc(alarms, byInstant).at)
	} else if got, is := w.Next(); got != 0 || is {
		t.Errorf("Next() = %d, %v; want 0, false", got, is)
	}
}

// byInstant compares by instants alone.
func byInstant(a, b alarm) int {
	return cmp.Compare(a.at, b.at)
}

// of makes a wheel with these alarms, set one behind the other.
func of(t *testing.T, alarms ...alarm) *wheel.Wheel {
	t.Helper()
	w := wheel.New()
	for _, a := range alarms {
		sets(t, w, a.id, a.at, api.OK)
	}
	return w
}

// instants are the ends of all, and such that have some, or all, lower bits in
// common.
var instants = []uint64{0, 1, 2, 31, 32, 63, 64, 65, 127, 128, 129, 255, 256, 1023, 1024, 4096,
	1<<32 - 1, 1 << 32, 1<<32 + 1, 1<<32 + 64, 1<<40 - 64, 1<<40 - 1, api.MaxTime}

// ids are such from both ends, and of all lengths.
var ids = []uint64{0, 1, 2, 63, 64, 65, 1 << 32, 1<<63 - 1, 1 << 63, 1<<64 - 2, 1<<64 - 1}

func TestExamples(t *testing.T) {
	w := wheel.New()
	sets(t, w, 3, 5, api.OK)
	sets(t, w, 1, 9, api.OK)
	sets(t, w, 2, 5, api.OK)
	next(t, w, 5)
	ticks(t, w, 4)
	ticks(t, w, 5, 2, 3)

	sets(t, w, 1, 7, api.OK)
	ticks(t, w, 8, 1)
	stops(t, w, 1, api.ErrNone)

	ticksNone(t, w, 7, api.ErrArg)
	sets(t, w, 9, 2, api.OK)
	ticks(t, w, 8, 9)
}

func TestNew(t *testing.T) { // P12.1
	w := wheel.New()
	holds(t, w, 0)
	for _, id := range ids {
		atNone(t, w, id)
		stops(t, w, id, api.ErrNone)
	}
	ticks(t, w, 0)
	ticks(t, w, 64)
	ticks(t, w, api.MaxTime)
	holds(t, w, api.MaxTime)
	holds(t, wheel.New(), 0)
}

func TestNotMade(t *testing.T) { // P12.1 to P12.3: ErrNil ahead of all
	moved := *of(t, alarm{1, 5}, alarm{2, 70})
	for name, w := range map[string]*wheel.Wheel{"none": nil, "of noughts": {}, "a struct's copy": &moved} {
		t.Run(name, func(t *testing.T) {
			for _, now := range []uint64{0, 5, api.MaxTime, api.MaxTime + 1, 1<<64 - 1} {
				sets(t, w, 1, now, api.ErrNil)
				sets(t, w, 7, now, api.ErrNil)
				ticksNone(t, w, now, api.ErrNil)
			}
			stops(t, w, 1, api.ErrNil)
			stops(t, w, 7, api.ErrNil)
			atNone(t, w, 1)
			atNone(t, w, 7)
			holds(t, w, 0)
			if c := w.Copy(); c != nil {
				t.Errorf("Copy() = %v, want nil", c)
			}
		})
	}
}

// A struct's copy has no part in the wheel that it was copied of.
func TestNotMadeApart(t *testing.T) { // R3
	w := of(t, alarm{1, 5})
	ticks(t, w, 4)
	moved := *w
	sets(t, &moved, 1, 7, api.ErrNil)
	sets(t, &moved, 2, 5, api.ErrNil)
	stops(t, &moved, 1, api.ErrNil)
	ticksNone(t, &moved, 5, api.ErrNil)
	holds(t, &moved, 0)
	holds(t, w, 4, alarm{1, 5})
	ticks(t, w, 5, 1)
}

func TestSet(t *testing.T) { // P12.2
	for _, instant := range instants {
		for _, id := range ids {
			w := of(t, alarm{id, instant})
			holds(t, w, 0, alarm{id, instant})
			atNone(t, w, id+7)
			if instant > 0 {
				ticks(t, w, instant-1)
				holds(t, w, instant-1, alarm{id, instant})
			}
			ticks(t, w, instant, id)
			holds(t, w, instant)
			atNone(t, w, id)
			stops(t, w, id, api.ErrNone)
			ticks(t, w, instant)
			ticks(t, w, api.MaxTime)
		}
	}
}

// All of them stand beside each other: an id is no instant, and all its bits are
// held against others'.
func TestSetMany(t *testing.T) { // P12.2
	var all []alarm
	for n, id := range ids {
		all = append(all, alarm{id, instants[2*n]})
	}
	w := of(t, all...)
	holds(t, w, 0, all...)
	for n := range ids {
		next(t, w, all[n].at)
		ticks(t, w, all[n].at, all[n].id)
		holds(t, w, all[n].at, all[n+1:]...)
	}
}

// An alarm that is set again is at its last instant alone.
func TestSetAgain(t *testing.T) { // P12.2
	for _, first := range instants {
		for _, last := range instants {
			w := of(t, alarm{8, first}, alarm{8, last})
			holds(t, w, 0, alarm{8, last})
			if last > 0 {
				ticks(t, w, last-1)
			}
			ticks(t, w, last, 8)
			holds(t, w, last)
			ticks(t, w, api.MaxTime)
		}
	}
}

// Who is set again leaves those where they are that hang beside it.
func TestSetAgainAmongOthers(t *testing.T) { // P12.2
	w := of(t, alarm{1, 10}, alarm{2, 10}, alarm{3, 10}, alarm{4, 74}, alarm{5, 138})
	sets(t, w, 2, 74, api.OK)
	holds(t, w, 0, alarm{1, 10}, alarm{3, 10}, alarm{2, 74}, alarm{4, 74}, alarm{5, 138})
	sets(t, w, 5, 10, api.OK)
	sets(t, w, 1, 11, api.OK)
	sets(t, w, 3, 10, api.OK)
	holds(t, w, 0, alarm{3, 10}, alarm{5, 10}, alarm{1, 11}, alarm{2, 74}, alarm{4, 74})
	ticks(t, w, 10, 3, 5)
	ticks(t, w, 200, 1, 2, 4)
}

// An alarm behind the clock is due at the next Tick, also one that does not go
// on.
func TestSetBehind(t *testing.T) { // P12.2
	for _, instant := range instants {
		for _, clock := range instants {
			if instant > clock {
				continue
			}
			w := wheel.New()
			ticks(t, w, clock)
			sets(t, w, 4, instant, api.OK)
			holds(t, w, clock, alarm{4, instant})
			c := w.Copy()
			ticks(t, w, clock, 4)
			holds(t, w, clock)
			ticks(t, c, min(clock+1, api.MaxTime), 4)
			holds(t, c, min(clock+1, api.MaxTime))
		}
	}
}

// Those behind the clock are told ahead of others, and in order themselves.
func TestSetBehindInOrder(t *testing.T) { // P12.2, P12.3
	w := wheel.New()
	ticks(t, w, 1000)
	for _, a := range []alarm{{1, 1001}, {2, 1000}, {3, 999}, {4, 0}, {5, 936}, {6, 937}, {7, 1}, {8, 0}, {9, 1002}} {
		sets(t, w, a.id, a.at, api.OK)
	}
	next(t, w, 0)
	stops(t, w, 6, api.OK)
	sets(t, w, 7, 2, api.OK)
	ticks(t, w, 1001, 4, 8, 7, 5, 3, 2, 1)
	holds(t, w, 1001, alarm{9, 1002})
}

func TestSetWrong(t *testing.T) { // P12.2: ErrArg; R2
	for _, instant := range []uint64{api.MaxTime + 1, api.MaxTime + 64, 1 << 63, 1<<64 - 1} {
		w := of(t, alarm{1, 20})
		ticks(t, w, 10)
		sets(t, w, 1, instant, api.ErrArg)
		sets(t, w, 2, instant, api.ErrArg)
		atNone(t, w, 2)
		holds(t, w, 10, alarm{1, 20})
		ticks(t, w, 20, 1)
		ticks(t, w, api.MaxTime)
	}
}

func TestStop(t *testing.T) { // P12.2
	for _, instant := range instants {
		for _, id := range ids {
			w := of(t, alarm{id, instant})
			stops(t, w, id+1, api.ErrNone)
			stops(t, w, id-1, api.ErrNone)
			stops(t, w, id^1<<63, api.ErrNone)
			holds(t, w, 0, alarm{id, instant})
			stops(t, w, id, api.OK)
			holds(t, w, 0)
			atNone(t, w, id)
			stops(t, w, id, api.ErrNone)
			ticks(t, w, api.MaxTime)
			stops(t, w, id, api.ErrNone)
		}
	}
}

// Whichever is stopped, the others that hang beside it stay.
func TestStopAmongOthers(t *testing.T) { // P12.2
	all := []alarm{{1, 7}, {5, 7}, {9, 7}, {2, 8}, {8, 70}, {3, 71}, {4, 71}, {6, 135}, {7, 263}}
	for n, gone := range all {
		w := of(t, all...)
		stops(t, w, gone.id, api.OK)
		atNone(t, w, gone.id)
		left := slices.Delete(slices.Clone(all), n, n+1)
		holds(t, w, 0, left...)
		ticks(t, w, 263, told(left)...)
	}
}

// An alarm can be set anew, when it was stopped or told.
func TestSetAnew(t *testing.T) { // P12.2, P12.3
	w := of(t, alarm{6, 10})
	stops(t, w, 6, api.OK)
	sets(t, w, 6, 12, api.OK)
	ticks(t, w, 11)
	ticks(t, w, 12, 6)
	sets(t, w, 6, 12, api.OK)
	holds(t, w, 12, alarm{6, 12})
	ticks(t, w, 12, 6)
	sets(t, w, 6, 76, api.OK)
	ticks(t, w, 75)
	ticks(t, w, 76, 6)
	ticks(t, w, 76)
}

// told are the ids of alarms, in the order of their telling.
func told(alarms []alarm) (all []uint64) {
	sorted := slices.Clone(alarms)
	slices.SortFunc(sorted, func(a, b alarm) int {
		return cmp.Or(cmp.Compare(a.at, b.at), cmp.Compare(a.id, b.id))
	})
	for _, a := range sorted {
		all = append(all, a.id)
	}
	return all
}

func TestTickOrder(t *testing.T) { // P12.3
	var all []alarm
	for n, instant := range instants { // ids fall where instants rise, and rise within one
		for m := range uint64(3) {
			all = append(all, alarm{uint64(1000-10*n) + 2 - m, instant})
		}
	}
	w := of(t, all...)
	holds(t, w, 0, all...)
	ticks(t, w, api.MaxTime, told(all)...)
	holds(t, w, api.MaxTime)
}

// Of one instant ids are told by rising numbers, however they were set.
func TestTickOrderOfIds(t *testing.T) { // P12.3
	for _, instant := range instants {
		w := wheel.New()
		for _, id := range slices.Backward(ids) {
			sets(t, w, id, instant, api.OK)
		}
		ticks(t, w, instant, ids...)
		holds(t, w, instant)
	}
}

// Just those are told whose instant is not above now; the others stay.
func TestTickDue(t *testing.T) { // P12.3
	for _, now := range instants {
		var due, left []alarm
		w := wheel.New()
		for n, instant := range instants {
			a := alarm{uint64(100 - n), instant}
			sets(t, w, a.id, a.at, api.OK)
			if instant <= now {
				due = append(due, a)
			} else {
				left = append(left, a)
			}
		}
		ticks(t, w, now, told(due)...)
		holds(t, w, now, left...)
		for _, a := range due {
			atNone(t, w, a.id)
		}
		ticks(t, w, now)
		ticks(t, w, api.MaxTime, told(left)...)
	}
}

func TestTickWrong(t *testing.T) { // P12.3: ErrArg; R2
	for _, clock := range instants {
		w := wheel.New()
		ticks(t, w, clock)
		sets(t, w, 1, 0, api.OK)
		sets(t, w, 2, api.MaxTime, api.OK)
		for _, now := range []uint64{api.MaxTime + 1, api.MaxTime + 64, 1 << 63, 1<<64 - 1} {
			ticksNone(t, w, now, api.ErrArg)
		}
		if clock > 0 {
			ticksNone(t, w, clock-1, api.ErrArg)
			ticksNone(t, w, 0, api.ErrArg)
		}
		holds(t, w, clock, alarm{1, 0}, alarm{2, api.MaxTime})
		ticks(t, w, api.MaxTime, 1, 2)
	}
}

// What was told is the caller's own.
func TestTickNewMemory(t *testing.T) { // R3
	w := of(t, alarm{1, 5}, alarm{2, 5}, alarm{3, 69}, alarm{4, 69}, alarm{5, 69})
	first, _ := w.Tick(5)
	kept := slices.Clone(first)
	for n := range first {
		first[n] = 99
	}
	first = append(first, 98, 97, 96)
	holds(t, w, 5, alarm{3, 69}, alarm{4, 69}, alarm{5, 69})
	second, _ := w.Tick(69)
	if !slices.Equal(kept, []uint64{1, 2}) || !slices.Equal(second, []uint64{3, 4, 5}) {
		t.Errorf("told %d, then %d", kept, second)
	}
	sets(t, w, 6, 5, api.OK)
	ticks(t, w, 69, 6)
	if !slices.Equal(first, []uint64{99, 99, 98, 97, 96}) || !slices.Equal(second, []uint64{3, 4, 5}) {
		t.Errorf("what was told became %d and %d", first, second)
	}
}

// Each of two lives on as if there were no other.
func TestCopyApart(t *testing.T) { // P12.1
	w := of(t, alarm{9, 1}, alarm{1, 70}, alarm{2, 70}, alarm{3, 134}, alarm{4, 200})
	ticks(t, w, 6, 9)
	c := w.Copy()
	holds(t, c, 6, alarm{1, 70}, alarm{2, 70}, alarm{3, 134}, alarm{4, 200})

	sets(t, c, 1, 6, api.OK)
	sets(t, c, 5, 70, api.OK)
	stops(t, c, 4, api.OK)
	atNone(t, w, 5)
	holds(t, w, 6, alarm{1, 70}, alarm{2, 70}, alarm{3, 134}, alarm{4, 200})

	stops(t, w, 2, api.OK)
	sets(t, w, 6, 70, api.OK)
	sets(t, w, 3, 5, api.OK)
	atNone(t, c, 6)
	holds(t, c, 6, alarm{1, 6}, alarm{2, 70}, alarm{5, 70}, alarm{3, 134})

	ticks(t, c, 70, 1, 2, 5)
	holds(t, w, 6, alarm{3, 5}, alarm{1, 70}, alarm{6, 70}, alarm{4, 200})
	ticks(t, w, 134, 3, 1, 6)
	holds(t, c, 70, alarm{3, 134})
	holds(t, w, 134, alarm{4, 200})
	ticks(t, c, 134, 3)
	ticks(t, w, 200, 4)
}

// Copies of copies, and of wheels without alarms, are wheels as well.
func TestCopyOfCopy(t *testing.T) { // P12.1
	c := wheel.New().Copy().Copy()
	holds(t, c, 0)
	sets(t, c, 1, 3, api.OK)
	d := c.Copy()
	ticks(t, c, 3, 1)
	holds(t, d, 0, alarm{1, 3})
	holds(t, c.Copy(), 3)
	ticks(t, d, 4, 1)
	ticksNone(t, d, 3, api.ErrArg)
}

// Ticks of any lengths tell what one Tick to the last instant would have told.
func TestTicksInPieces(t *testing.T) { // P12.4
	const last = 3000
	for n, step := range []uint64{1, 2, 7, 63, 64, 65, 128, 1000, last} {
		c, w := chance(n), wheel.New()
		for range 300 {
			sets(t, w, c.next()%500, c.next()%(last+1), api.OK)
		}
		even, uneven, whole := w.Copy(), w.Copy(), w.Copy()
		want, _ := whole.Tick(last)
		if len(want) != w.Len() {
			t.Fatalf("%d of %d are told at once", len(want), w.Len())
		}
		for name, got := range map[string][]uint64{
			"even":   pieces(t, even, last, func() uint64 { return step }),
			"uneven": pieces(t, uneven, last, func() uint64 { return c.next() % (step + 1) }),
		} {
			if !slices.Equal(got, want) {
				t.Errorf("by %s steps of %d %d are told, want %d", name, step, got, want)
			}
		}
		holds(t, even, last)
		holds(t, uneven, last)
	}
}

// pieces lets a wheel go on to last by steps, and tells all that it tells.
func pieces(t *testing.T, w *wheel.Wheel, last uint64, step func() uint64) (all []uint64) {
	t.Helper()
	for w.Now() < last {
		l, e := w.Tick(min(last, w.Now()+step()))
		if e != api.OK {
			t.Fatalf("Tick behind %d: %d", w.Now(), e)
		}
		all = append(all, l...)
	}
	return all
}

// Each is told at the first Tick at or behind its instant, and nowhere else.
func TestOnceInTime(t *testing.T) { // P12.4
	w, c := wheel.New(), chance(12)
	due := map[uint64]uint64{}
	for id := range uint64(400) {
		due[id] = c.next() % 2000
		sets(t, w, id, due[id], api.OK)
	}
	for before, now := uint64(0), uint64(0); now < 2100; before, now = now+1, now+c.next()%90 {
		l, e := w.Tick(now)
		if e != api.OK {
			t.Fatalf("Tick(%d) = %d", now, e)
		}
		for _, id := range l {
			if instant, is := due[id]; !is || instant < before || instant > now {
				t.Fatalf("Tick(%d) behind %d told %d, which is due at %d", now, before, id, instant)
			}
			delete(due, id)
		}
		for id, instant := range due {
			if instant <= now {
				t.Fatalf("Tick(%d) did not tell %d, which is due at %d", now, id, instant)
			}
		}
	}
	if w.Len() != len(due) {
		t.Errorf("Len() = %d, want %d", w.Len(), len(due))
	}
}

// orders are all orders of some alarms.
func orders(alarms []alarm) (all [][]alarm) {
	if len(alarms) == 0 {
		return [][]alarm{nil}
	}
	for n, a := range alarms {
		for _, rest := range orders(slices.Delete(slices.Clone(alarms), n, n+1)) {
			all = append(all, append([]alarm{a}, rest...))
		}
	}
	return all
}

func TestAnyOrder(t *testing.T) { // P12.5
	all := []alarm{{3, 5}, {1, 69}, {4, 5}, {2, 6}, {9, 69}, {7, 133}}
	for _, order := range orders(all) {
		w := of(t, order...)
		holds(t, w, 0, all...)
		ticks(t, w, 5, 3, 4)
		ticks(t, w, 133, 2, 1, 9, 7)
	}
}

// Many alarms, set forth, back, and across, with as many that hang in one list.
func TestAnyOrderOfMany(t *testing.T) { // P12.5
	const all = 20000
	for _, apart := range []uint64{0, 1, 64, 1000, api.MaxTime / all} {
		forth, back, across := wheel.New(), wheel.New(), wheel.New()
		var want []uint64
		for n := range uint64(all) {
			want = append(want, n)
			m, k := all-1-n, n*7919%all // 7919 has no factor in common with all
			sets(t, forth, n, n*apart, api.OK)
			sets(t, back, m, m*apart, api.OK)
			sets(t, across, k, k*apart, api.OK)
		}
		for _, w := range []*wheel.Wheel{forth, back, across} {
			next(t, w, 0)
			if w.Len() != all {
				t.Fatalf("Len() = %d", w.Len())
			}
			if got, e := w.Tick(api.MaxTime); !slices.Equal(got, want) || e != api.OK {
				t.Fatalf("those that are %d apart are told in another order", apart)
			}
			holds(t, w, api.MaxTime)
		}
	}
}

// model is a wheel as the document's words have it, without any thrift.
type model struct {
	now    uint64
	alarms []alarm
}

func (m *model) copy() *model {
	return &model{m.now, slices.Clone(m.alarms)}
}

// leave leaves those alarms that are to be left, and tells the others.
func (m *model) leave(is func(a alarm) bool) (gone []alarm) {
	var left []alarm
	for _, a := range m.alarms {
		if is(a) {
			left = append(left, a)
		} else {
			gone = append(gone, a)
		}
	}
	m.alarms = left
	return gone
}

func (m *model) Stop(id uint64) api.Errno {
	if len(m.leave(func(a alarm) bool { return a.id != id })) == 0 {
		return api.ErrNone
	}
	return api.OK
}

func (m *model) Set(id, at uint64) api.Errno {
	if at > api.MaxTime {
		return api.ErrArg
	}
	m.Stop(id)
	m.alarms = append(m.alarms, alarm{id, at})
	return api.OK
}

func (m *model) Tick(now uint64) ([]uint64, api.Errno) {
	if now < m.now || now > api.MaxTime {
		return nil, api.ErrArg
	}
	m.now = now
	return told(m.leave(func(a alarm) bool { return a.at > now })), api.OK
}

// both are a wheel and the model of it.
type both struct {
	w *wheel.Wheel
	m *model
}

func (x both) copy() both {
	return both{x.w.Copy(), x.m.copy()}
}

// instant makes one that lies near the clock, or anywhere, or that may not be.
func (x both) instant(c *chance) uint64 {
	switch c.below(16) {
	case 0:
		return instants[c.below(len(instants))]
	case 1:
		return x.m.now - min(x.m.now, c.next()%300)
	case 2:
		return api.MaxTime - 1 + c.next()%3
	case 3:
		return c.next() << 32
	}
	return x.m.now + c.next()%(1<<c.below(12))
}

// step does any one thing with both.
func (x both) step(t *testing.T, c *chance) {
	t.Helper()
	id := c.next() % 40
	if id < uint64(len(ids)) {
		id = ids[id]
	}
	switch c.below(8) {
	case 0, 1, 2, 3:
		instant := x.instant(c)
		if e, f := x.w.Set(id, instant), x.m.Set(id, instant); e != f {
			t.Fatalf("Set(%d, %d) = %d, want %d", id, instant, e, f)
		}
	case 4, 5:
		if e, f := x.w.Stop(id), x.m.Stop(id); e != f {
			t.Fatalf("Stop(%d) = %d, want %d", id, e, f)
		}
	case 6:
		now := x.m.now + c.next()%(1<<c.below(9))
		if c.below(3) == 0 {
			now = x.instant(c)
		}
		if now > x.m.now+1<<20 && now <= api.MaxTime { // time is to last
			now = x.m.now
		}
		got, e := x.w.Tick(now)
		if want, f := x.m.Tick(now); !slices.Equal(got, want) || e != f {
			t.Fatalf("Tick(%d) = %d, %d; want %d, %d", now, got, e, want, f)
		}
	case 7:
		x.same(t)
	}
}

// same holds what is asked of the wheel against the model.
func (x both) same(t *testing.T) {
	t.Helper()
	holds(t, x.w, x.m.now, x.m.alarms...)
	if t.Failed() {
		t.FailNow()
	}
}

func TestAnything(t *testing.T) { // P12.1 to P12.5
	for n := range 40 {
		x, c := both{wheel.New(), &model{}}, chance(n)
		for range 3000 {
			x.step(t, &c)
		}
		x.same(t)
	}
}

func TestAnythingWithCopies(t *testing.T) { // P12.1
	for n := range 20 {
		c := chance(1000 + n)
		all := []both{{wheel.New(), &model{}}}
		for range 400 {
			for _, y := range all {
				y.step(t, &c)
			}
			switch c.below(10) {
			case 0:
				all = append(all, all[c.below(len(all))].copy())
			case 1:
				all = slices.Delete(all, 0, len(all)/4)
			}
		}
		for _, y := range all {
			y.same(t)
		}
	}
}
