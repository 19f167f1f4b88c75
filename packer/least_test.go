package packer_test

import (
	"slices"
	"testing"
)

// bound checks that Least returns a number.
func bound(t *testing.T, sizes []int, capacity, want int) {
	t.Helper()
	if n := least(t, sizes, capacity); n != want {
		t.Errorf("Least of %s with the capacity %d: %d, want %d", short(sizes), capacity, n, want)
	}
}

// P16.4: sums that the capacity divides, and does not divide
func TestLeastOfSums(t *testing.T) {
	bound(t, []int{0}, 1, 0)
	bound(t, []int{0, 0, 0}, 64, 0)
	bound(t, of(512, 0), 1<<50, 0)
	bound(t, []int{1}, 64, 1)
	bound(t, []int{32, 32}, 64, 1)
	bound(t, []int{32, 31}, 64, 1)
	bound(t, []int{32, 32, 1}, 64, 2)
	bound(t, of(6, 32), 64, 3)
	bound(t, append(of(6, 32), 1), 64, 4)
	bound(t, append(of(5, 32), 31), 64, 3)
	bound(t, of(512, 4096), 1<<50, 1)
	bound(t, of(512, 4096), 1<<21, 1)
	bound(t, of(512, 4096), 1<<21-1, 2)
	bound(t, of(512, 4096), 1<<20, 2)
	bound(t, of(512, 1), 3, 171)
	bound(t, of(511, 1), 7, 73)
}

// P16.4: sizes of half of the capacity, of one more and of one less
func TestLeastOfLargeFiles(t *testing.T) {
	for _, capacity := range []int{2, 4, 64, 100, 4096, 8190} {
		half := capacity / 2
		bound(t, of(3, half), capacity, 2)
		bound(t, of(3, half+1), capacity, 3)
		bound(t, of(10, half), capacity, 5)
		bound(t, of(10, half+1), capacity, 10)
		bound(t, []int{half + 1, half, half + 1, half}, capacity, 3)
		bound(t, []int{0, half + 1, 0, half + 1, 0}, capacity, 2)
	}
	for _, capacity := range []int{1, 3, 5, 63, 65, 4097, 8191} {
		// Half of it is not an integer: the smaller part is not greater than that, and the greater one is.
		bound(t, of(10, capacity/2+1), capacity, 10)
		if capacity > 1 {
			bound(t, of(2, capacity/2), capacity, 1)
			bound(t, []int{capacity / 2, capacity/2 + 1, capacity / 2}, capacity, 2)
		}
	}
	bound(t, []int{33, 33, 33}, 64, 3)
	bound(t, []int{32, 32, 32}, 64, 2)
}

// P16.4: either number may be the greater one.
func TestLeastOfBoth(t *testing.T) {
	bound(t, []int{40, 40, 20}, 64, 2)
	bound(t, append(of(20, 10), 33), 64, 4)
	bound(t, append(of(5, 33), 10), 64, 5)
	bound(t, []int{64, 64}, 64, 2)
	bound(t, []int{64, 64, 1}, 64, 3)
}

// P16.4: sizes that are greater than the capacity are valid.
func TestLeastOfGreatFiles(t *testing.T) {
	bound(t, []int{65}, 64, 2)
	bound(t, []int{65, 0, 65}, 64, 3)
	bound(t, []int{4096}, 1, 4096)
	bound(t, []int{4096}, 2, 2048)
	bound(t, []int{4096}, 3, 1366)
	bound(t, of(512, 4096), 1, 512*4096)
}

// P16.4: arguments that are not valid by one condition alone
func TestLeastOfInvalid(t *testing.T) {
	bound(t, of(512, 40), 64, 512)
	bound(t, of(513, 40), 64, 0)
	for _, size := range ints() {
		for at := range 3 {
			sizes := []int{40, 40, 40}
			if sizes[at] = size; !isSize(size) {
				bound(t, sizes, 64, 0)
			}
		}
	}
	for _, capacity := range ints() {
		if !isCapacity(capacity) {
			bound(t, []int{40, 40, 40}, capacity, 0)
		}
	}
	bound(t, []int{4096, 4096, 4096}, 1<<50, 1)
}

// fewest returns the least number of containers of all packings of the sizes, where the containers that there are have this space.
func fewest(sizes, spaces []int, capacity int) int {
	if len(sizes) == 0 {
		return len(spaces)
	}
	best := fewest(sizes[1:], append(slices.Clone(spaces), capacity-sizes[0]), capacity)
	for i, space := range spaces {
		if sizes[0] <= space {
			rest := slices.Clone(spaces)
			rest[i] -= sizes[0]
			best = min(best, fewest(sizes[1:], rest, capacity))
		}
	}
	return best
}

// P16.4: no packing has fewer containers, among all packings of all lists of up to five small sizes.
func TestLeastOfAllPackings(t *testing.T) {
	tight := 0
	for n := range 6 {
		for _, sizes := range lists(n, 4) {
			for capacity := slices.Max(append(sizes, 1)); capacity <= 9; capacity++ {
				best := fewest(sizes, nil, capacity)
				got := least(t, sizes, capacity)
				if got > best {
					t.Errorf("Least of %v with the capacity %d: %d, but there is a packing with %d", sizes, capacity, got, best)
				}
				if got == best {
					tight++
				}
			}
		}
	}
	if tight < 1000 {
		t.Errorf("%d bounds were reached", tight)
	}
}

// P16.4: all small sizes, and many others
func TestLeastOfMixedSizes(t *testing.T) {
	for n := range 5 {
		for _, sizes := range lists(n, 6) {
			for capacity := 1; capacity <= 13; capacity++ {
				least(t, sizes, capacity)
			}
		}
	}
	for _, sizes := range mixedSizes() {
		for _, capacity := range capacities() {
			least(t, sizes, capacity)
		}
		for _, size := range sizes[:min(len(sizes), 5)] {
			for capacity := max(2*size-1, 1); capacity <= 2*size+1; capacity++ {
				least(t, sizes, capacity)
			}
		}
	}
}
