package container_test

import (
	"math"
	"slices"
	"testing"

	"tapearchive/api"
	"tapearchive/container"
)

// refuse checks that Need and Extract return an error.
func refuse(t *testing.T, what string, h api.Header, entry, offset, length int, want api.Errno) {
	t.Helper()
	if got := need(t, h, entry, offset, length); got != (needed{e: want}) {
		t.Errorf("%s: Need of %+v, entry %d, offset %d, length %d: %+v, want the error %d", what, h, entry, offset, length, got, want)
	}
	for _, l := range [][]api.Block{nil, {data("x")}, {mark(), {Bad: true}}} {
		if got := extract(t, h, entry, offset, length, l); got.e != want || len(got.b) != 0 {
			t.Errorf("%s: Extract of %+v, entry %d, offset %d, length %d: %+v, want the error %d", what, h, entry, offset, length, got, want)
		}
	}
}

// P15.5: every entry, and all offsets and lengths of short parts
func TestNeed(t *testing.T) {
	for version := 1; version <= 2; version++ {
		for _, lengths := range [][]int{{}, {0}, {1}, {3, 0, 2}, {62, 5, 57, 4}, {0, 0, 60, 4, 0}, slices.Repeat([]int{2}, 64), {131}} {
			h, _ := parts(version, lengths...)
			for entry, n := range lengths {
				for offset := -1; offset <= n+1; offset++ {
					for length := -1; length <= n-offset+1; length++ {
						need(t, h, entry, offset, length)
					}
				}
			}
		}
	}
}

// P15.5: bytes that begin or end at the border of a block, one byte before and behind it
func TestNeedAtBorders(t *testing.T) {
	for version := 1; version <= 2; version++ {
		room := roomOf(version)
		for _, front := range []int{0, 1, room - 1, room, room + 1, 5 * room, 4096} {
			h, _ := parts(version, front, 4096)
			first := container.HeaderBlocks(h)
			var borders []int
			for border := 0; border <= front+4096; border += room {
				if border < front+4*room || border > front+4096-3*room {
					borders = append(borders, border-1, border, border+1)
				}
			}
			for _, from := range borders {
				for _, to := range borders {
					if from < front || to < from || to > front+4096 {
						continue
					}
					want := needed{s: api.Span{From: first + from/room, Count: (to-1)/room - from/room + 1}}
					if to == from {
						want = needed{}
					}
					if got := need(t, h, 1, from-front, to-from); got != want {
						t.Errorf("version %d, bytes %d to %d: %+v, want %+v", version, from, to-1, got, want)
					}
				}
			}
		}
	}
}

// P15.5: headers of several blocks, and the greatest container
func TestNeedBehindLongHeaders(t *testing.T) {
	for version := 1; version <= 2; version++ {
		h, _ := great(version)
		front, room := container.HeaderBlocks(h), roomOf(version)
		for _, entry := range []int{0, 1, 31, 62, 63} {
			for _, offset := range []int{0, 1, 63, 64, 4000, 4095} {
				for _, length := range []int{0, 1, 60, 4096 - offset} {
					need(t, h, entry, offset, length)
				}
			}
		}
		last := 1<<18 - 1
		if got := need(t, h, 63, 4095, 1); got.s != (api.Span{From: front + last/room, Count: 1}) || got.s.From != container.Blocks(h)-1 {
			t.Errorf("version %d: the last byte is in %+v", version, got)
		}
		if got := need(t, h, 0, 0, 1); got.s != (api.Span{From: front, Count: 1}) {
			t.Errorf("version %d: the first byte is in %+v", version, got)
		}
	}
}

// P15.5: the zero span for no bytes, wherever they are
func TestNeedOfNothing(t *testing.T) {
	for version := 1; version <= 2; version++ {
		h, _ := parts(version, 64, 0, 61)
		for entry, n := range []int{64, 0, 61} {
			for offset := range n + 1 {
				if got := need(t, h, entry, offset, 0); got != (needed{}) {
					t.Errorf("version %d, entry %d, offset %d: %+v", version, entry, offset, got)
				}
				if got := extract(t, h, entry, offset, 0, nil); got.e != api.OK || len(got.b) != 0 {
					t.Errorf("version %d, entry %d, offset %d: %+v", version, entry, offset, got)
				}
			}
		}
	}
}

// P15.5: numbers that are not those of an entry
func TestNeedOfNoEntry(t *testing.T) {
	for _, c := range small() {
		for _, entry := range append(ints(), len(c.h.Entries), len(c.h.Entries)+1) {
			if entry >= 0 && entry < len(c.h.Entries) {
				continue
			}
			for _, n := range []int{0, 1, -1, math.MaxInt} {
				refuse(t, "no entry", c.h, entry, n, n, api.ErrNotFound)
			}
		}
	}
}

// P15.5: offsets and lengths that are negative, or end behind the part, also if their sum exceeds the range of int
func TestNeedOfNoBytes(t *testing.T) {
	for version := 1; version <= 2; version++ {
		lengths := []int{100, 0, 1, 64}
		h, _ := parts(version, lengths...)
		for entry, n := range lengths {
			for _, c := range [][2]int{{-1, 0}, {-1, 1}, {0, -1}, {1, -1}, {n, 1}, {n + 1, 0}, {n + 1, -1}, {0, n + 1}, {n, -1}, {n / 2, n - n/2 + 1}, {-1, n}, {-n, n + n}} {
				if c[0] >= 0 && c[1] >= 0 && c[0]+c[1] <= n {
					continue
				}
				refuse(t, "bytes that are not in the part", h, entry, c[0], c[1], api.ErrRange)
			}
			for _, offset := range ints() {
				for _, length := range ints() {
					if offset < 0 || length < 0 || exceeds(offset, length, n) {
						refuse(t, "great numbers", h, entry, offset, length, api.ErrRange)
					}
				}
			}
		}
	}
}

// P15.5: headers that are not valid, whatever else is wrong
func TestNeedOfInvalidHeaders(t *testing.T) {
	for _, c := range invalid() {
		for _, entry := range []int{math.MinInt, -1, 0, 1, 2, 3, 64, math.MaxInt} {
			for _, n := range []int{0, 1, -1, math.MaxInt} {
				refuse(t, c.name, c.h, entry, n, n, api.ErrInvalid)
			}
		}
	}
	refuse(t, "no header", api.Header{}, 0, 0, 0, api.ErrInvalid)
}

// P15.5: random headers, and random bytes of them
func TestNeedOfRandomHeaders(t *testing.T) {
	var r random
	counts := map[api.Errno]int{}
	for range 20000 {
		h := randomHeader(&r, 400)
		entry := r.below(len(h.Entries)+2) - 1
		n := 1
		if entry >= 0 && entry < len(h.Entries) {
			n = max(1, min(5000, h.Entries[entry].Length))
		}
		counts[need(t, h, entry, r.below(n+2)-1, r.below(n+2)-1).e]++
	}
	for _, e := range []api.Errno{api.OK, api.ErrInvalid, api.ErrNotFound, api.ErrRange} {
		if counts[e] < 200 {
			t.Errorf("the numbers of errors are %v", counts)
		}
	}
}
