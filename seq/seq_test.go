package seq_test

import (
	"bytes"
	"math"
	"slices"
	"testing"

	"culvert/seq"
)

const top = math.MaxUint32

// edges are numbers at which something turns: the ends, the middle, and what
// stands beside them.
var edges = []uint32{0, 1, 2, 5, 1<<31 - 2, 1<<31 - 1, 1 << 31, 1<<31 + 1, 1<<31 + 2, top - 2, top - 1, top}

// moves are what all numbers of a call are moved by.
var moves = []uint32{1, 7, 1<<31 - 1, 1 << 31, top - 3, top}

func TestAdd(t *testing.T) { // P1.1
	for _, x := range []struct {
		a    uint32
		n    int64
		want uint32
	}{
		{0, 0, 0}, {5, 3, 8}, {top, 3, 2}, {top, 1, 0}, {0, -1, top}, {2, -5, top - 2},
		{7, 1 << 31, 1<<31 + 7}, {7, -1 << 31, 1<<31 + 7}, {7, 1 << 32, 7}, {7, -1 << 32, 7},
		{7, 1<<32 + 9, 16}, {7, -1<<32 - 9, top - 1}, {7, 5<<40 + 1, 8},
		{1, math.MaxInt64, 0}, {1, math.MinInt64, 1}, {0, math.MinInt64 + 1, 1},
	} {
		if got := seq.Add(x.a, x.n); got != x.want {
			t.Errorf("Add(%d, %d) = %d, want %d", x.a, x.n, got, x.want)
		}
	}
}

func TestAheadLessLater(t *testing.T) { // P1.1
	for _, x := range []struct {
		a, b  uint32
		ahead int32
		less  bool
		later uint32
	}{
		{5, 5, 0, false, 5},
		{5, 6, 1, true, 6},
		{6, 5, -1, false, 6},
		{top, 0, 1, true, 0},
		{0, top, -1, false, 0},
		{top - 1, 5, 7, true, 5},
		{5, top - 1, -7, false, 5},
		{0, 1<<31 - 1, 1<<31 - 1, true, 1<<31 - 1},
		{1<<31 - 1, 0, -1<<31 + 1, false, 1<<31 - 1},
		{0, 1<<31 + 1, -1<<31 + 1, false, 0},
		{1<<31 + 1, 0, 1<<31 - 1, true, 0},
		// Half the way round lies behind, whichever way it is asked.
		{0, 1 << 31, -1 << 31, false, 0},
		{1 << 31, 0, -1 << 31, false, 1 << 31},
		{7, 1<<31 + 7, -1 << 31, false, 7},
	} {
		if got := seq.Ahead(x.a, x.b); got != x.ahead {
			t.Errorf("Ahead(%d, %d) = %d, want %d", x.a, x.b, got, x.ahead)
		}
		if got := seq.Less(x.a, x.b); got != x.less {
			t.Errorf("Less(%d, %d) = %v, want %v", x.a, x.b, got, x.less)
		}
		if got := seq.Later(x.a, x.b); got != x.later {
			t.Errorf("Later(%d, %d) = %d, want %d", x.a, x.b, got, x.later)
		}
	}
}

func TestAheadIsWhatAddAdds(t *testing.T) { // P1.1
	for _, a := range edges {
		for _, b := range edges {
			if got := seq.Add(a, int64(seq.Ahead(a, b))); got != b {
				t.Errorf("Add(%d, Ahead(%d, %d)) = %d", a, a, b, got)
			}
		}
	}
}

func TestWithin(t *testing.T) { // P1.1
	for _, x := range []struct {
		x, from, long uint32
		want          bool
	}{
		{5, 5, 0, false}, {5, 5, 1, true}, {6, 5, 1, false}, {4, 5, 9, false},
		{13, 5, 9, true}, {14, 5, 9, false},
		{1, top, 3, true}, {2, top, 3, false}, {top, top, 1, true}, {top - 1, top, 3, false},
		// A stretch may be longer than half of all numbers.
		{1<<31 + 5, 5, 1 << 31, false}, {1<<31 + 4, 5, 1 << 31, true}, {1<<31 + 5, 5, 1<<31 + 1, true},
		{3, 5, top, true}, {4, 5, top, false}, {top - 1, 0, top, true}, {top, 0, top, false},
	} {
		if got := seq.Within(x.x, x.from, x.long); got != x.want {
			t.Errorf("Within(%d, %d, %d) = %v, want %v", x.x, x.from, x.long, got, x.want)
		}
	}
}

func TestAcceptOfNothing(t *testing.T) { // P1.2
	for _, n := range []int{0, -1, -1000, math.MinInt} {
		for _, x := range []struct {
			at, next, window uint32
			want             bool
		}{
			{5, 5, 0, true}, {4, 5, 0, false}, {6, 5, 0, false},
			{5, 5, 1, true}, {4, 5, 9, false}, {6, 5, 1, false}, {6, 5, 2, true},
			{13, 5, 9, true}, {14, 5, 9, false},
			{1, top, 3, true}, {2, top, 3, false}, {top - 1, top, 3, false},
			{1<<31 + 9, 5, 1<<31 + 5, true}, {4, 5, top, false}, {3, 5, top, true},
		} {
			if got := seq.Accept(x.at, n, x.next, x.window); got != x.want {
				t.Errorf("Accept(%d, %d, %d, %d) = %v, want %v", x.at, n, x.next, x.window, got, x.want)
			}
		}
	}
}

func TestAcceptOfSomething(t *testing.T) { // P1.2
	for _, x := range []struct {
		at           uint32
		n            int
		next, window uint32
		want         bool
	}{
		// Without room nothing is taken, be it at next.
		{5, 1, 5, 0, false}, {5, 9, 5, 0, false}, {3, 3, 5, 0, false}, {4, 2, 5, 0, false},
		// The first number.
		{5, 1, 5, 1, true}, {13, 1, 5, 9, true}, {13, 100, 5, 9, true}, {14, 1, 5, 9, false}, {14, 100, 5, 9, false},
		// The last one.
		{3, 3, 5, 1, true}, {3, 2, 5, 1, false}, {4, 1, 5, 9, false}, {4, 2, 5, 9, true}, {4, 10, 5, 9, true},
		// Both ends stand outside, what is between does not.
		{4, 11, 5, 9, false}, {3, 4, 5, 1, false},
		// Round the end.
		{top, 2, 0, 4, true}, {top, 1, 0, 4, false}, {1, 1, top, 3, true}, {2, 1, top, 3, false}, {top - 2, 3, top, 1, true}, {top - 2, 4, top, 1, false},
		// So long that it comes round itself.
		{10, 1<<32 - 5, 5, 1, false}, {10, 1<<32 - 4, 5, 1, true}, {10, 1<<32 - 3, 5, 1, false}, {10, 1 << 32, 5, 5, true}, {10, 1 << 32, 5, 4, false}, {4, 1<<32 + 2, 5, 1, true},
		// Room for more than half of all numbers.
		{1<<31 + 9, 1, 5, 1<<31 + 5, true}, {1<<31 + 10, 1, 5, 1<<31 + 5, false}, {4, 1, 5, top, false}, {4, 2, 5, top, true}, {3, 1, 5, top, true},
	} {
		if got := seq.Accept(x.at, x.n, x.next, x.window); got != x.want {
			t.Errorf("Accept(%d, %d, %d, %d) = %v, want %v", x.at, x.n, x.next, x.window, got, x.want)
		}
	}
}

func TestCut(t *testing.T) { // P1.3
	for _, x := range []struct {
		at         uint32
		data       string
		from, long uint32
		begin      uint32
		want       string
	}{
		{8, "abcd", 10, 1, 10, "c"},
		{8, "abcd", 8, 4, 8, "abcd"},
		{8, "abcd", 8, 9, 8, "abcd"},
		{8, "abcd", 8, 3, 8, "abc"},
		{8, "abcd", 9, 3, 9, "bcd"},
		{8, "abcd", 9, 9, 9, "bcd"},
		// The stretch begins ahead of the bytes: the part begins with them.
		{8, "abcd", 1, 8, 8, "a"},
		{8, "abcd", 1, 99, 8, "abcd"},
		// None stands in it: from is told, not at.
		{8, "abcd", 1, 7, 1, ""},
		{8, "abcd", 12, 5, 12, ""},
		{8, "abcd", 20, 5, 20, ""},
		{8, "abcd", 9, 0, 9, ""},
		{8, "abcd", 8, 0, 8, ""},
		{8, "", 8, 5, 8, ""},
		{8, "", 3, 9, 3, ""},
		// Round the end.
		{top - 1, "abcd", 0, 9, 0, "cd"},
		{top - 1, "abcd", top, 2, top, "bc"},
		{1, "abcd", top, 3, 1, "a"},
		{0, "abcd", top - 4, 5, top - 4, ""},
		{0, "abcd", top - 4, 6, 0, "a"},
		// A stretch that is too long is as long as half of the numbers, less one.
		{5 + 1<<31 - 3, "abcd", 5, top, 5 + 1<<31 - 3, "ab"},
		{5 + 1<<31 - 3, "abcd", 5, 1 << 31, 5 + 1<<31 - 3, "ab"},
		{5 + 1<<31 - 3, "abcd", 5, 1<<31 - 1, 5 + 1<<31 - 3, "ab"},
		{5 + 1<<31 - 3, "abcd", 5, 1<<31 - 2, 5 + 1<<31 - 3, "a"},
		{5 + 1<<31 - 1, "abcd", 5, top, 5, ""},
		{5 + 1<<31, "abcd", 5, top, 5, ""},
		// What is ahead by Ahead's word alone does not stand in it.
		{4, "abcd", 5, top, 5, "bcd"},
		{1, "abcd", 5, top, 5, ""},
		{5, "abcd", 5, top, 5, "abcd"},
	} {
		begin, part := seq.Cut(x.at, []byte(x.data), x.from, x.long)
		if begin != x.begin || string(part) != x.want {
			t.Errorf("Cut(%d, %q, %d, %d) = %d, %q, want %d, %q", x.at, x.data, x.from, x.long, begin, part, x.begin, x.want)
		}
	}
	if begin, part := seq.Cut(3, nil, 9, 9); begin != 9 || len(part) != 0 {
		t.Error("Cut of nil:", begin, part)
	}
}

func TestCutByteByByte(t *testing.T) { // P1.3
	data := []byte("abcdef")
	for _, from := range edges {
		for _, long := range edges {
			for off := -9; off <= 9; off++ {
				for _, base := range []uint32{from, from + long, from + 1<<31} {
					checkCut(t, seq.Add(base, int64(off)), data, from, long)
				}
			}
		}
	}
}

// checkCut asks each byte of data by itself whether it stands in the stretch.
func checkCut(t *testing.T, at uint32, data []byte, from, long uint32) {
	t.Helper()
	begin, want := from, []byte(nil)
	for i, c := range data {
		ahead := int64(int32(at + uint32(i) - from))
		if ahead < 0 || ahead >= min(int64(long), 1<<31-1) {
			continue
		}
		if want == nil {
			begin = at + uint32(i)
		}
		want = append(want, c)
	}
	if got, part := seq.Cut(at, data, from, long); got != begin || !bytes.Equal(part, want) {
		t.Errorf("Cut(%d, %q, %d, %d) = %d, %q, want %d, %q", at, data, from, long, got, part, begin, want)
	}
}

func TestCutLeavesWhatItIsGiven(t *testing.T) { // P1.3, R3
	data := []byte("abcdefgh")
	_, part := seq.Cut(8, data, 10, 3)
	_, whole := seq.Cut(8, data, 8, 8)
	if string(data) != "abcdefgh" || string(part) != "cde" || string(whole) != "abcdefgh" {
		t.Fatalf("%q, %q, %q", data, part, whole)
	}
	for i := range part {
		part[i] = 'x'
	}
	whole[0] = 'x'
	_ = append(part, 'y')
	if string(data) != "abcdefgh" {
		t.Errorf("what was given became %q", data)
	}
	_, part = seq.Cut(8, data, 10, 3)
	data[2] = 'z'
	if string(part) != "cde" {
		t.Errorf("what was told became %q", part)
	}
}

func TestGoingRoundDoesNotMatter(t *testing.T) { // P1.4
	for _, a := range edges {
		for _, b := range edges {
			for _, m := range moves {
				checkPairMoved(t, a, b, m)
				for _, long := range edges {
					checkStretchMoved(t, a, b, long, m)
				}
			}
		}
	}
}

func checkPairMoved(t *testing.T, a, b, m uint32) {
	t.Helper()
	n := int64(int32(b))
	if seq.Add(a+m, n) != seq.Add(a, n)+m {
		t.Errorf("Add(%d, %d) moved by %d", a, n, m)
	}
	if seq.Ahead(a+m, b+m) != seq.Ahead(a, b) || seq.Less(a+m, b+m) != seq.Less(a, b) {
		t.Errorf("Ahead, Less(%d, %d) moved by %d", a, b, m)
	}
	if seq.Later(a+m, b+m) != seq.Later(a, b)+m {
		t.Errorf("Later(%d, %d) moved by %d", a, b, m)
	}
}

func checkStretchMoved(t *testing.T, a, b, long, m uint32) {
	t.Helper()
	if seq.Within(a+m, b+m, long) != seq.Within(a, b, long) {
		t.Errorf("Within(%d, %d, %d) moved by %d", a, b, long, m)
	}
	for _, n := range []int{-1, 0, 1, 4} {
		if seq.Accept(a+m, n, b+m, long) != seq.Accept(a, n, b, long) {
			t.Errorf("Accept(%d, %d, %d, %d) moved by %d", a, n, b, long, m)
		}
	}
	data := []byte("abcd")
	begin, part := seq.Cut(a, data, b, long)
	moved, same := seq.Cut(a+m, data, b+m, long)
	if moved != begin+m || !bytes.Equal(part, same) {
		t.Errorf("Cut(%d, .., %d, %d) moved by %d", a, b, long, m)
	}
}

func TestAsIfTheyDidNotGoRound(t *testing.T) { // P1.5
	rows := []int64{0, 1, 7, 1<<31 - 1, 1 << 31, 1<<32 - 1, 1 << 32, 1<<32 + 5, 3<<32 - 2}
	dists := []int64{0, 1, 2, 100, 1 << 30, 1<<31 - 2, 1<<31 - 1}
	for _, p := range rows {
		for _, d := range dists {
			for _, q := range []int64{p + d, p - d} {
				a, b := uint32(p), uint32(q)
				if int64(seq.Ahead(a, b)) != q-p || seq.Less(a, b) != (p < q) {
					t.Errorf("places %d, %d: %d, %v", p, q, seq.Ahead(a, b), seq.Less(a, b))
				}
				for _, long := range dists {
					if seq.Within(b, a, uint32(long)) != (q >= p && q < p+long) {
						t.Errorf("place %d, stretch of %d from %d on", q, long, p)
					}
				}
			}
		}
	}
}

func TestWhatIsCutOffIsWhereItWas(t *testing.T) { // P1.6
	data := []byte("0123456789")
	for _, at := range edges {
		for off := int64(-12); off <= 12; off++ {
			for long := range uint32(14) {
				from := seq.Add(at, off)
				begin, part := seq.Cut(at, data, from, long)
				if len(part) == 0 {
					continue
				}
				i := int(seq.Ahead(at, begin))
				if i < 0 || i+len(part) > len(data) || !slices.Equal(part, data[i:i+len(part)]) {
					t.Errorf("Cut(%d, .., %d, %d) = %d, %q", at, from, long, begin, part)
				}
			}
		}
	}
}
