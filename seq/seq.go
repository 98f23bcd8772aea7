// Package seq is layer 1: sequence numbers, which go round behind 2^32 - 1.
package seq

// half is the greatest distance that Ahead tells; bytes and stretches that are
// longer count as so long.
const half = 1<<31 - 1

// Add tells the number that is n ahead of a.
func Add(a uint32, n int64) uint32 {
	return a + uint32(n)
}

// Ahead tells how far b is ahead of a, from -2^31 to 2^31 - 1.
func Ahead(a, b uint32) int32 {
	return int32(b - a)
}

// Less tells whether b is ahead of a.
func Less(a, b uint32) bool {
	return Ahead(a, b) > 0
}

// Later tells b, if it is ahead of a; else a.
func Later(a, b uint32) uint32 {
	if Less(a, b) {
		return b
	}
	return a
}

// Within tells whether x is one of the long numbers from from on. It counts
// forward alone, so that a stretch may be longer than half of all numbers.
func Within(x, from, long uint32) bool {
	return x-from < long
}

// Accept tells whether a receiver that waits for next, with room for window
// numbers, takes something that begins at at and is n numbers long.
func Accept(at uint32, n int, next, window uint32) bool {
	fits := func(x uint32) bool { return Within(x, next, window) }
	if n <= 0 {
		// Without room a bare acknowledgement still may come.
		return at == next || fits(at)
	}
	return fits(at) || fits(Add(at, int64(n)-1))
}

// Cut tells the part of data, which begins at at, that stands in the stretch
// of long numbers from from on, and the number at which that part begins.
func Cut(at uint32, data []byte, from, long uint32) (uint32, []byte) {
	data = data[:min(len(data), half)]
	start := int64(Ahead(from, at))
	// place is the place in data of what is so far ahead of from, or the
	// nearest end of data.
	place := func(ahead int64) int64 {
		return min(max(ahead-start, 0), int64(len(data)))
	}
	first, behind := place(0), place(int64(min(long, half)))
	if first == behind {
		return from, nil
	}
	part := data[first:behind:behind]
	out := make([]byte, len(part))
	copy(out, part)
	return Add(at, first), out
}
