package serpentine_test

import (
	"math"
	"testing"

	"tapearchive/api"
	"tapearchive/serpentine"
)

// P9.4: spans at, before and behind the first blocks of wraps
func TestRead(t *testing.T) {
	two, three := timed(2, 10, [4]int{1, 5, 3, 2}), timed(3, 10, [4]int{100, 10, 1, 1000})
	for _, c := range []struct {
		g                 api.Geometry
		from, count, want int
	}{
		{two, 8, 4, 8 + 3 + 5}, // the chapter's example
		{two, 18, 3, 0}, {two, 10, 1, 2}, {two, 0, 20, 40 + 8}, {two, 0, 21, 0}, {two, 1, 20, 0}, {two, 19, 1, 2}, {two, 20, 0, 0}, {two, 20, 1, 0}, {two, 21, 0, 0}, {two, 21, -1, 0}, {two, 5, -1, 0}, {two, -1, 2, 0}, {two, -1, 0, 0},
		{three, 0, 0, 0}, {three, 9, 0, 0}, {three, 10, 0, 0}, {three, 11, 0, 0}, {three, 30, 0, 0}, // no blocks
		{three, 0, 1, 1000}, {three, 9, 1, 1000}, {three, 10, 1, 1000}, {three, 29, 1, 1000}, {three, 30, 1, 0}, // one
		{three, 9, 2, 2000 + 11}, {three, 10, 2, 2000}, {three, 8, 2, 2000}, {three, 19, 2, 2000 + 11}, // two
		{three, 0, 9, 9000}, {three, 0, 10, 10000}, {three, 0, 11, 11000 + 11}, {three, 10, 10, 10000}, {three, 10, 11, 11000 + 11}, {three, 9, 11, 11000 + 11}, {three, 9, 12, 12000 + 22},
		{three, 0, 30, 30000 + 22}, {three, 0, 21, 21000 + 22}, {three, 0, 20, 20000 + 11}, {three, 10, 20, 20000 + 11}, {three, 20, 10, 10000}, {three, 11, 19, 19000 + 11}, {three, 11, 20, 0},
		{timed(4, 1, [4]int{0, 10, 1, 1000}), 0, 4, 4000 + 33}, {timed(4, 1, [4]int{0, 10, 1, 1000}), 3, 1, 1000}, {timed(4, 1, [4]int{0, 10, 1, 1000}), 1, 2, 2000 + 11},
		{timed(32, 128, [4]int{0, 10, 1, 1000}), 0, 4096, 4096000 + 31*11}, {timed(1, 4096, [4]int{0, 10, 1, 1000}), 0, 4096, 4096000}, {timed(1, 4096, [4]int{0, 10, 1, 1000}), 0, 4097, 0},
		{timed(32, 128, [4]int{1000000, 1000000, 1000000, 1000000}), 0, 4096, 4158 * 1000000},
		{two, math.MaxInt, 1, 0}, {two, 1, math.MaxInt, 0}, {two, math.MaxInt, math.MaxInt, 0}, {two, 20, math.MaxInt, 0}, {two, 2, math.MaxInt - 1, 0}, {two, math.MinInt, math.MinInt, 0}, {two, math.MinInt, math.MaxInt, 0}, {two, 5, math.MinInt, 0}, {two, 1 << 62, 1 << 62, 0}, {two, math.MinInt + 10, math.MaxInt, 0}, {two, math.MinInt, 10, 0}, {two, -5, 10, 0}, {two, 10, -5, 0},
	} {
		if n := serpentine.Read(c.g, api.Span{From: c.from, Count: c.count}); n != c.want {
			t.Errorf("Read(%+v, %d from %d on): %d, want %d", c.g, c.count, c.from, n, c.want)
		}
	}
}

// checkRead checks Read of a span.
func checkRead(t *testing.T, tape tape, from, count int) {
	t.Helper()
	s := api.Span{From: from, Count: count}
	if n, want := serpentine.Read(tape.g, s), tape.read(s); n != want {
		t.Errorf("Read(%+v, %+v): %d, want %d", tape.g, s, n, want)
	}
}

// P9.4: all spans of small tapes, also such that are not on them, or only in part
func TestAllSpans(t *testing.T) {
	for _, tape := range smallTapes() {
		for from := -2; from <= tape.capacity()+2; from++ {
			for count := -2; count <= tape.capacity()+3; count++ {
				checkRead(t, tape, from, count)
			}
		}
	}
}

// P9.4: spans of great tapes
func TestSpansOfGreatTapes(t *testing.T) {
	var r random
	for _, tape := range greatTapes() {
		c, length := tape.capacity(), tape.g.Length
		numbers := []int{-1, 0, 1, length - 1, length, length + 1, 2*length - 1, 2 * length, c - length, c - 1, c, c + 1}
		for range 20 {
			numbers = append(numbers, r.below(c+1))
		}
		for _, from := range numbers {
			for _, count := range numbers {
				checkRead(t, tape, from, count)
				checkRead(t, tape, from, c-from-1)
				checkRead(t, tape, from, c-from)
				checkRead(t, tape, from, c-from+1)
			}
		}
	}
}

// P9.4: the extreme ints, whose sums are not exact
func TestExtremeSpans(t *testing.T) {
	for _, tape := range append(smallTapes(), greatTapes()...) {
		for _, v := range extremes() {
			for _, w := range append(extremes(), -1, 0, 1, 2) {
				checkRead(t, tape, v, w)
				checkRead(t, tape, w, v)
			}
			for n := range 3 {
				checkRead(t, tape, v, n-v)
				checkRead(t, tape, n-v, v)
			}
		}
	}
}
