package packer_test

import (
	"math"
	"testing"

	"tapearchive/api"
)

// refuse checks that no function takes sizes and a capacity: Least returns 0, and the others the error.
func refuse(t *testing.T, what string, sizes []int, capacity int, want api.Errno) {
	t.Helper()
	if got := fill(t, sizes, capacity); got.e != want || len(got.l) != 0 {
		t.Errorf("%s: Fill: %s, want the error %d", what, short(got), want)
	}
	for _, p := range packings() {
		if got := p.pack(t, sizes, capacity); got.e != want || len(got.l) != 0 {
			t.Errorf("%s: %s: %s, want the error %d", what, p.name, short(got), want)
		}
	}
	if n := least(t, sizes, capacity); n != 0 {
		t.Errorf("%s: Least: %d", what, n)
	}
}

// P16.1 to P16.4: numbers of files
func TestNumbersOfFiles(t *testing.T) {
	for _, n := range []int{0, 1, 2, 3, 64, 511, 512, 513, 514, 1024, 5000} {
		for _, size := range []int{0, 1, 64} {
			if n <= 512 {
				for _, capacity := range []int{64, 1 << 50} {
					all(t, of(n, size), capacity)
				}
				continue
			}
			refuse(t, "too many files", of(n, size), 64, api.ErrTooLong)
		}
	}
}

// P16.1 to P16.4: without files, there are no containers.
func TestNoFiles(t *testing.T) {
	for _, capacity := range ints() {
		if !isCapacity(capacity) {
			refuse(t, "no files", nil, capacity, api.ErrRange)
			continue
		}
		if got := fill(t, nil, capacity); got.e != api.OK || len(got.l) != 0 {
			t.Errorf("Fill with the capacity %d: %s", capacity, short(got))
		}
		for _, p := range packings() {
			if got := p.pack(t, nil, capacity); got.e != api.OK || len(got.l) != 0 {
				t.Errorf("%s with the capacity %d: %s", p.name, capacity, short(got))
			}
		}
		if n := least(t, nil, capacity); n != 0 {
			t.Errorf("Least with the capacity %d: %d", capacity, n)
		}
	}
}

// P16.1 to P16.4: every size at the first place, in the middle and at the last one, among sizes that are valid
func TestSizes(t *testing.T) {
	for _, n := range []int{1, 2, 3, 4, 65, 511, 512} {
		for _, at := range []int{0, n / 2, n - 1} {
			for _, size := range ints() {
				sizes := of(n, 7)
				sizes[at] = size
				if isSize(size) {
					all(t, sizes, 4096)
					continue
				}
				refuse(t, "a bad size", sizes, 4096, api.ErrRange)
			}
		}
	}
}

// P16.1 to P16.4: every capacity
func TestCapacities(t *testing.T) {
	for _, capacity := range ints() {
		for _, sizes := range [][]int{{0}, {1}, {1, 0}, {1, 1, 1}, {40, 50, 20}, of(100, 3), {4096}, {4096, 4096, 4095}} {
			if isCapacity(capacity) {
				all(t, sizes, capacity)
				continue
			}
			refuse(t, "a bad capacity", sizes, capacity, api.ErrRange)
		}
	}
}

// P16.1 to P16.4: the greatest capacity takes as many files as a container may have.
func TestGreatestCapacity(t *testing.T) {
	for _, capacity := range []int{1<<50 - 1, 1 << 50} {
		sizes := of(512, 4096)
		if got := fill(t, sizes, capacity); got.e != api.OK || len(got.l) != 8 {
			t.Errorf("Fill: %s", short(got))
		}
		for _, p := range packings() {
			if got := p.pack(t, sizes, capacity); got.e != api.OK || len(got.l) != 8 {
				t.Errorf("%s: %s", p.name, short(got))
			}
		}
		if n := least(t, sizes, capacity); n != 1 {
			t.Errorf("Least: %d", n)
		}
	}
}

// R1: all functions that take sizes, with many numbers that are not valid
func TestManyBadNumbers(t *testing.T) {
	var r random
	list := ints()
	for range 3000 {
		sizes := make([]int, r.below(6))
		for i := range sizes {
			sizes[i] = list[r.below(len(list))]
		}
		capacity := list[r.below(len(list))]
		all(t, sizes, capacity)
	}
	for _, size := range []int{math.MinInt, math.MaxInt, -1, 1 << 62} {
		for _, n := range []int{2, 4, 8, 512} {
			// These sums and doubles exceed the range of int.
			refuse(t, "sums that are too great", of(n, size), 1<<50, api.ErrRange)
		}
	}
}
