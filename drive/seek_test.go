package drive_test

import (
	"strings"
	"testing"

	"tapearchive/api"
)

// checkMotion checks Seek from a block to another one, with these time and passes.
func checkMotion(t *testing.T, c api.Cartridge, from, to, time, passes int) {
	t.Helper()
	got := try(t, seek(to), model(), ready(from), c)
	want := result{d: ready(to), c: c, time: time}
	want.d.Passes += passes
	want.d.Since += passes
	want.c.Passes += passes
	if !got.equal(want) {
		t.Errorf("Seek from %d to %d: %s, want %s", from, to, got, want)
	}
}

// P11.3: within a wrap, across a turn, over several wraps, and to the place behind the last block
func TestSeek(t *testing.T) {
	c := holding(chapter(), strings.Repeat("a", 20))
	for _, x := range []struct{ from, to, time, passes int }{
		{0, 0, 0, 0}, {7, 7, 0, 0}, {13, 13, 0, 0}, {20, 20, 0, 0},
		{0, 9, 9, 900}, {0, 1, 1, 100}, {5, 2, 3 + 5, 300}, {9, 0, 9 + 5, 900}, // wrap 0, forward and backward
		{10, 19, 9, 900}, {12, 13, 1, 100}, {16, 11, 5 + 5, 500}, // wrap 1
		{9, 10, 3 + 5, 0}, {10, 9, 3 + 5, 0}, {0, 19, 3 + 5, 0}, {19, 0, 3 + 5, 0}, // the same position
		{8, 12, 1 + 3, 100}, {8, 10, 1 + 3 + 5, 100}, {0, 10, 9 + 3 + 5, 900}, {10, 0, 9 + 3 + 5, 900}, {5, 19, 5 + 3, 500}, {19, 5, 5 + 3, 500}, // across the turn
		{9, 20, 10 + 3, 1000}, {19, 20, 1, 100}, {20, 19, 1 + 5, 100}, {20, 10, 10 + 5, 1000}, {20, 0, 1 + 3, 100}, {0, 20, 1 + 3, 100}, {20, 9, 10 + 3, 1000},
	} {
		checkMotion(t, c, x.from, x.to, x.time, x.passes)
	}
	c = holding(api.Geometry{Wraps: 5, Length: 3, Step: 7, Turn: 1000, Jump: 50, Stream: 2}, strings.Repeat("m", 15))
	for _, x := range []struct{ from, to, time, passes int }{
		{0, 2, 2 * 7, 667}, {0, 1, 7, 334}, {1, 0, 7 + 1000, 334},
		{0, 6, 2 * 50, 0}, {0, 8, 2*7 + 2*50, 667}, {0, 12, 4 * 50, 0}, {14, 0, 2*7 + 4*50 + 1000, 667}, {0, 14, 2*7 + 4*50, 667}, {2, 9, 50*3 + 1000, 0}, {13, 3, 7 + 3*50 + 1000, 334}, {3, 13, 7 + 3*50 + 1000, 334}, {13, 5, 7 + 3*50, 334},
		{14, 15, 7, 334}, {0, 15, 3*7 + 4*50, 1000}, {15, 3, 7 + 3*50, 334}, {15, 0, 3*7 + 4*50 + 1000, 1000},
	} {
		checkMotion(t, c, x.from, x.to, x.time, x.passes)
	}
}

// P11.3: to -1, 0, the Head, the end of data and one more, with blocks of which some are Bad
func TestErrorsOfSeek(t *testing.T) {
	for n := 0; n <= 6; n++ {
		c := holding(geometry(2, 3), "aMzmBC"[:n])
		for head := 0; head <= n; head++ {
			for _, to := range append(extremes(), -2, -1, 0, 1, head, n-1, n, n+1, n+2, 6, 7, 4096, 4097) {
				want := api.OK
				if to < 0 || to > n {
					want = api.ErrRange
					expect(t, seek(to), model(), ready(head), c, want)
				}
				if got := try(t, seek(to), model(), ready(head), c); got.e != want || want == api.OK && got.d.Head != to {
					t.Errorf("%d of %d blocks, from %d: %s", to, n, head, got)
				}
			}
		}
	}
}

// geometries are those with which all motions are tried.
func geometries() []api.Geometry {
	return []api.Geometry{chapter(), geometry(1, 1), geometry(1, 7), geometry(2, 3), geometry(3, 2), geometry(3, 4), geometry(6, 1), geometry(7, 3), {Wraps: 4, Length: 3}, {Wraps: 3, Length: 3, Step: 1000000, Turn: 1000000, Jump: 1000000, Stream: 1000000}}
}

// P11.2, P11.3: all motions on small tapes, also to the place behind the last block
func TestAllMotions(t *testing.T) {
	for _, g := range geometries() {
		capacity := g.Wraps * g.Length
		c := holding(g, strings.Repeat("m", capacity))
		for from := 0; from <= capacity; from++ {
			try(t, unload(), model(), ready(from), c)
			for to := 0; to <= capacity; to++ {
				if got := try(t, seek(to), model(), ready(from), c); got.e != api.OK {
					t.Errorf("%s", got)
				}
			}
		}
	}
}

// P11.2, P11.3: motions on great tapes
func TestGreatMotions(t *testing.T) {
	var r random
	for _, g := range []api.Geometry{geometry(32, 128), geometry(1, 4096), {Wraps: 4, Length: 1024, Step: 1000000, Turn: 1000000, Jump: 1000000, Stream: 1000000}} {
		c := holding(g, strings.Repeat("m", 4096))
		for range 40 {
			from, to := r.below(4097), r.below(4097)
			try(t, seek(to), model(), ready(from), c)
			try(t, unload(), model(), ready(from), c)
		}
		for _, n := range []int{0, 1, 127, 128, 4095, 4096} {
			try(t, seek(n), model(), ready(4096-n), c)
			try(t, unload(), model(), ready(n), c)
		}
	}
}

// P11.2: what Unload returns, for a model of 0, of 1 and of 1,000,000
func TestUnload(t *testing.T) {
	for _, time := range []int{0, 1, 31, 999999, 1000000} {
		m := api.DriveModel{Load: 3, Unload: time, Clean: 4}
		for _, x := range []struct{ head, time, passes int }{{0, 0, 0}, {1, 1 + 5, 100}, {9, 9 + 5, 900}, {10, 9 + 3 + 5, 900}, {11, 8 + 3 + 5, 800}, {19, 3 + 5, 0}, {20, 1 + 3, 100}} {
			for _, flags := range []api.Cartridge{{}, {Locked: true}, {WriteOnce: true}} {
				c := holding(chapter(), "amzMZamzMZamzMZamzMZ")
				c.Locked, c.WriteOnce = flags.Locked, flags.WriteOnce
				want := result{d: api.Drive{Loads: 55, Passes: 70007 + x.passes, Since: 808 + x.passes}, c: c, time: x.time + time}
				want.c.Passes += x.passes
				if got := try(t, unload(), m, ready(x.head), c); !got.equal(want) {
					t.Errorf("from %d: %s, want %s", x.head, got, want)
				}
			}
		}
	}
	if got := try(t, unload(), model(), ready(0), holding(chapter(), "")); got.e != api.OK || got.time != 31 {
		t.Errorf("without blocks: %s", got)
	}
}
