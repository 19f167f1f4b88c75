package serpentine_test

import (
	"math"
	"testing"

	"tapearchive/api"
	"tapearchive/serpentine"
)

// P9.3: motions of each kind
func TestLocate(t *testing.T) {
	two, three := timed(2, 10, [4]int{1, 5, 3, 2}), timed(3, 10, [4]int{100, 10, 1, 1000})
	for _, c := range []struct {
		g              api.Geometry
		from, to, want int
	}{
		{two, 0, 9, 9}, {two, 9, 10, 3 + 5}, {two, 5, 2, 3 + 5}, {two, 0, 19, 3 + 5}, {two, 19, 0, 3 + 5}, // the chapter's examples
		{two, 9, 20, 10 + 3}, {two, 20, 10, 10 + 5}, {two, 0, 10, 9 + 3 + 5},
		{three, 7, 7, 0}, {three, 0, 0, 0}, {three, 30, 30, 0}, // to itself
		{three, 2, 17, 1 + 10}, {three, 17, 2, 1 + 10}, {three, 17, 22, 1 + 10}, {three, 22, 17, 1 + 10}, // equal positions, different directions
		{three, 2, 22, 2}, {three, 22, 2, 2}, {three, 0, 20, 2}, {three, 29, 9, 2}, // equal positions, the same direction
		{three, 2, 6, 400}, {three, 6, 2, 400 + 10}, // within a wrap that is recorded forward
		{three, 12, 16, 400}, {three, 16, 12, 400 + 10}, // within one that is recorded backward
		{three, 2, 14, 300 + 1 + 10}, {three, 8, 14, 300 + 1}, {three, 14, 2, 300 + 1 + 10}, {three, 14, 8, 300 + 1}, // between wraps of different directions
		{three, 2, 26, 400 + 2}, {three, 26, 2, 400 + 2 + 10}, // between wraps of the same direction
		{three, 29, 30, 100}, {three, 30, 29, 100 + 10}, {three, 20, 30, 1000}, {three, 0, 30, 1000 + 2}, {three, 30, 0, 1000 + 2 + 10}, {three, 10, 30, 100 + 1}, {three, 30, 10, 100 + 1}, {three, 30, 19, 1000 + 1}, // the place behind the last block, forward
		{two, 19, 20, 1}, {two, 20, 19, 1 + 5}, {two, 0, 20, 1 + 3}, {two, 20, 0, 1 + 3}, {two, 20, 9, 10 + 3}, {two, 10, 20, 10}, // backward
		{two, 0, 21, 0}, {two, 21, 0, 0}, {two, -1, 3, 0}, {two, 3, -1, 0}, {two, 21, 21, 0}, {two, -1, -1, 0}, {two, -1, 21, 0},
	} {
		if n := serpentine.Locate(c.g, c.from, c.to); n != c.want {
			t.Errorf("Locate(%+v, %d, %d): %d, want %d", c.g, c.from, c.to, n, c.want)
		}
	}
}

// P9.5: some that need no rounding, and some that need it
func TestPasses(t *testing.T) {
	two, three, seven := timed(2, 10, [4]int{1, 5, 3, 2}), timed(3, 3, [4]int{}), timed(2, 7, [4]int{1000000, 1000000, 1000000, 1000000})
	for _, c := range []struct {
		g              api.Geometry
		from, to, want int
	}{
		{two, 0, 9, 900}, {two, 9, 0, 900}, {two, 0, 10, 900}, {two, 0, 19, 0}, {two, 9, 10, 0}, {two, 4, 4, 0}, {two, 0, 20, 100}, {two, 9, 20, 1000}, {two, 20, 10, 1000},
		{three, 0, 1, 334}, {three, 0, 2, 667}, {three, 1, 0, 334}, {three, 0, 9, 1000}, {three, 9, 5, 1000}, {three, 9, 3, 334}, {three, 6, 7, 334},
		{seven, 0, 1, 143}, {seven, 0, 2, 286}, {seven, 0, 6, 858}, {seven, 6, 14, 1000}, {seven, 13, 14, 143},
		{timed(1, 4096, [4]int{}), 0, 1, 1}, {timed(1, 4096, [4]int{}), 0, 4095, 1000}, {timed(1, 4096, [4]int{}), 0, 4096, 1000}, {timed(1, 4096, [4]int{}), 0, 4091, 999}, {timed(1, 4096, [4]int{}), 512, 1024, 125}, {timed(32, 128, [4]int{}), 0, 127, 993},
		{timed(1, 1, [4]int{}), 0, 1, 1000}, {timed(1, 1, [4]int{}), 0, 0, 0}, {timed(2, 1, [4]int{}), 0, 1, 0},
		{two, 0, 21, 0}, {two, 21, 0, 0}, {two, -1, 9, 0}, {two, 9, -1, 0},
	} {
		if n := serpentine.Passes(c.g, c.from, c.to); n != c.want {
			t.Errorf("Passes(%+v, %d, %d): %d, want %d", c.g, c.from, c.to, n, c.want)
		}
	}
}

// checkMotion checks Locate and Passes between two blocks.
func checkMotion(t *testing.T, tape tape, from, to int) {
	t.Helper()
	if n, want := serpentine.Locate(tape.g, from, to), tape.locate(from, to); n != want {
		t.Errorf("Locate(%+v, %d, %d): %d, want %d", tape.g, from, to, n, want)
	}
	if n, want := serpentine.Passes(tape.g, from, to), tape.passes(from, to); n != want {
		t.Errorf("Passes(%+v, %d, %d): %d, want %d", tape.g, from, to, n, want)
	}
}

// P9.3, P9.5, P9.6: all pairs of blocks of small tapes, and of the numbers beside them; the greatest of their times
func TestAllMotions(t *testing.T) {
	for _, tape := range smallTapes() {
		most := 0
		for from := -2; from <= tape.capacity()+2; from++ {
			for to := -2; to <= tape.capacity()+2; to++ {
				checkMotion(t, tape, from, to)
				most = max(most, tape.locate(from, to))
			}
		}
		if n := serpentine.Farthest(tape.g); n != most {
			t.Errorf("Farthest(%+v): %d, want %d", tape.g, n, most)
		}
	}
}

// P9.3, P9.5, P9.6: pairs of blocks of great tapes
func TestMotionsOfGreatTapes(t *testing.T) {
	var r random
	for _, tape := range greatTapes() {
		c, length := tape.capacity(), tape.g.Length
		blocks := []int{-1, 0, 1, length - 1, length, 2*length - 1, 2 * length, c - length, c - 1, c, c + 1}
		for range 50 {
			blocks = append(blocks, r.below(c+1))
		}
		farthest := serpentine.Farthest(tape.g)
		for _, from := range blocks {
			for _, to := range blocks {
				checkMotion(t, tape, from, to)
				if n := tape.locate(from, to); n > farthest {
					t.Errorf("%+v: from %d to %d it is %d, but the farthest is %d", tape.g, from, to, n, farthest)
				}
			}
		}
	}
}

// P9.6: the greatest times, known by hand
func TestFarthest(t *testing.T) {
	for _, c := range []struct {
		g    api.Geometry
		want int
	}{
		{timed(2, 10, [4]int{1, 5, 3, 2}), 9 + 3 + 5},    // from 0 to 10
		{timed(1, 1, [4]int{100, 10, 1, 9}), 100 + 10},   // from 1 to 0
		{timed(1, 10, [4]int{100, 10, 1, 9}), 1000 + 10}, // from 10 to 0
		{timed(2, 1, [4]int{100, 10, 1, 9}), 100 + 10},   // from 2 to 1
		{timed(2, 1, [4]int{1, 10, 100, 9}), 100 + 10},   // from 0 to 1, at the same position
		{timed(3, 1, [4]int{100, 10, 1, 9}), 100 + 2 + 10},
		{timed(3, 1, [4]int{1, 10, 100, 9}), 1 + 200 + 10},
		{timed(4, 1, [4]int{0, 10, 1, 9}), 3 + 10},
		{timed(3, 10, [4]int{100, 10, 1, 9}), 1000 + 2 + 10},      // from 30 to 0
		{timed(4, 10, [4]int{1, 10, 100, 9}), 9 + 300 + 10},       // from 0 to 30
		{timed(4, 10, [4]int{100, 10, 1, 9}), 1000 + 2 + 10},      // from 40 to 10
		{timed(4, 10, [4]int{0, 0, 0, 9}), 0},                     // no motion takes any time
		{timed(4, 10, [4]int{0, 0, 7, 9}), 21},                    // wraps only
		{timed(4, 10, [4]int{0, 7, 0, 9}), 7},                     // a turn only
		{timed(4, 10, [4]int{7, 0, 0, 9}), 70},                    // steps only
		{timed(32, 128, [4]int{1, 1, 1, 1}), 127 + 31 + 1},        // from 0 to 3968
		{timed(1, 4096, [4]int{1, 1, 1, 1}), 4096 + 1},            // from 4096 to 0
		{timed(2, 2048, [4]int{1, 0, 1, 1}), 2048 + 1},            // from 2047 to 4096
		{timed(32, 128, [4]int{1000000, 0, 0, 0}), 128 * 1000000}, // from 127 to 4096
		{timed(1, 4096, [4]int{1000000, 1000000, 1000000, 1000000}), 4097 * 1000000},
		{timed(32, 128, [4]int{1000000, 1000000, 1000000, 1000000}), 159 * 1000000},
		{timed(33, 1, [4]int{1, 1, 1, 1}), 0},
	} {
		if n := serpentine.Farthest(c.g); n != c.want {
			t.Errorf("Farthest(%+v): %d, want %d", c.g, n, c.want)
		}
	}
}

// longest returns what Farthest returns, as a sum. With an odd number of wraps, the motion from the place behind the last block to block 0 is the longest one in each respect. With an even number no motion is, because there the place behind the last block is before the beginning of the tape: either a step, or a wrap, or the turn must be left out.
func longest(g api.Geometry) int {
	time := g.Step*g.Length + g.Jump*(g.Wraps-1) + g.Turn
	if g.Wraps%2 == 0 {
		time -= min(g.Step, g.Jump, g.Turn)
	}
	return time
}

// P9.6: small and great tapes, and any times
func TestLongest(t *testing.T) {
	for _, tape := range append(smallTapes(), greatTapes()...) {
		if n, want := serpentine.Farthest(tape.g), longest(tape.g); n != want {
			t.Errorf("Farthest(%+v): %d, want %d", tape.g, n, want)
		}
	}
	var r random
	for wraps := 1; wraps <= 32; wraps++ {
		for range 50 {
			most := 1 + r.below(1000001)
			g := timed(wraps, 1+r.below(4096/wraps), [4]int{r.below(most), r.below(most), r.below(most), r.below(most)})
			if n, want := serpentine.Farthest(g), longest(g); n != want {
				t.Errorf("Farthest(%+v): %d, want %d", g, n, want)
			}
		}
	}
}

// P9.3, P9.5: the extreme ints as numbers of blocks
func TestExtremeMotions(t *testing.T) {
	for _, tape := range append(smallTapes(), greatTapes()...) {
		for _, v := range extremes() {
			for _, w := range append(extremes(), -1, 0, 1) {
				checkMotion(t, tape, v, w)
				checkMotion(t, tape, w, v)
			}
		}
	}
	if n := serpentine.Locate(timed(1, 4096, [4]int{1, 1, 1, 1}), math.MinInt, math.MaxInt); n != 0 {
		t.Errorf("between the extreme ints it is %d", n)
	}
}
