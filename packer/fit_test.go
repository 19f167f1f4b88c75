package packer_test

import (
	"slices"
	"testing"

	"tapearchive/api"
)

// packed checks that FirstFit or Decreasing makes these containers.
func (p packing) packed(t *testing.T, sizes []int, capacity int, want ...[]int) {
	t.Helper()
	if got := p.pack(t, sizes, capacity); got.e != api.OK || !equal(got.l, want) {
		t.Errorf("%s of %s with the capacity %d: %s, want %s", p.name, short(sizes), capacity, short(got), short(want))
	}
}

// first and decreasing check FirstFit and Decreasing, both checks both.
func first(t *testing.T, sizes []int, capacity int, want ...[]int) {
	t.Helper()
	packings()[0].packed(t, sizes, capacity, want...)
}

func decreasing(t *testing.T, sizes []int, capacity int, want ...[]int) {
	t.Helper()
	packings()[1].packed(t, sizes, capacity, want...)
}

func both(t *testing.T, sizes []int, capacity int, want ...[]int) {
	t.Helper()
	first(t, sizes, capacity, want...)
	decreasing(t, sizes, capacity, want...)
}

// P16.2, P16.3: all lists of up to five small sizes
func TestFitOfSmallSizes(t *testing.T) {
	for n := range 6 {
		for _, sizes := range lists(n, 5) {
			for capacity := 1; capacity <= 11; capacity++ {
				for _, p := range packings() {
					p.pack(t, sizes, capacity)
				}
			}
		}
	}
}

// P16.2, P16.3: one less than, as much as and one more than the capacity
func TestFitAtCapacity(t *testing.T) {
	for _, capacity := range []int{1, 2, 3, 64, 4095, 4096} {
		both(t, []int{0}, capacity, []int{0})
		both(t, []int{capacity - 1}, capacity, []int{0})
		both(t, []int{capacity}, capacity, []int{0})
		both(t, []int{capacity, capacity, capacity}, capacity, []int{0}, []int{1}, []int{2})
		if capacity > 2 {
			first(t, []int{capacity - 1, 1}, capacity, []int{0, 1})
			first(t, []int{1, capacity - 1}, capacity, []int{0, 1})
			decreasing(t, []int{1, capacity - 1}, capacity, []int{1, 0})
			first(t, []int{capacity - 1, 2, 1}, capacity, []int{0, 2}, []int{1})
			first(t, []int{capacity - 1, 1, 1}, capacity, []int{0, 1}, []int{2})
		}
		if capacity == 4096 {
			break
		}
		for _, sizes := range [][]int{{capacity + 1}, {0, capacity + 1, 0}, {capacity + 1, capacity}, {capacity, 0, capacity + 1}, {4096}} {
			for _, p := range packings() {
				if got := p.pack(t, sizes, capacity); got.e != api.ErrFull || len(got.l) != 0 {
					t.Errorf("%s of %v with the capacity %d: %s", p.name, sizes, capacity, short(got))
				}
			}
		}
	}
}

// P16.2, P16.3: files without bytes go into the first container, even if it is full.
func TestFitWithoutBytes(t *testing.T) {
	both(t, of(3, 0), 1, []int{0, 1, 2})
	first(t, []int{5, 5, 0, 3, 0}, 5, []int{0, 2, 4}, []int{1}, []int{3})
	decreasing(t, []int{0, 5, 0, 3, 5}, 5, []int{1, 0, 2}, []int{4}, []int{3})
	for _, capacity := range []int{1, 64, 1 << 50} {
		both(t, of(64, 0), capacity, to(0, 63))
		both(t, of(65, 0), capacity, to(0, 63), []int{64})
		both(t, of(130, 0), capacity, to(0, 63), to(64, 127), []int{128, 129})
	}
	first(t, append(of(64, 0), 5, 0, 5), 10, to(0, 63), to(64, 66))
	decreasing(t, append(of(64, 0), 5, 0, 5), 10, slices.Concat([]int{64, 66}, to(0, 61)), []int{62, 63, 65})
}

// P16.2, P16.3: files that fit into an earlier container than the last one
func TestFitIntoEarlierContainers(t *testing.T) {
	first(t, []int{6, 7, 8, 1, 2, 3, 4}, 10, []int{0, 3, 4}, []int{1, 5}, []int{2}, []int{6})
	decreasing(t, []int{6, 7, 8, 1, 2, 3, 4}, 10, []int{2, 4}, []int{1, 5}, []int{0, 6}, []int{3})
	// Not into the one with the least space, nor into the one with the most.
	first(t, []int{5, 8, 2, 9, 2}, 10, []int{0, 2, 4}, []int{1}, []int{3})
	decreasing(t, []int{2, 7, 8, 9, 1, 1}, 10, []int{3, 4}, []int{2, 0}, []int{1, 5})
	// The space between the first container and the last one
	first(t, []int{10, 7, 10, 3, 1}, 10, []int{0}, []int{1, 3}, []int{2}, []int{4})
}

// P16.2, P16.3: containers with MaxEntries files and space for more
func TestFitOfManyFiles(t *testing.T) {
	for _, capacity := range []int{65, 1000, 1 << 50} {
		both(t, of(64, 1), capacity, to(0, 63))
		both(t, of(65, 1), capacity, to(0, 63), []int{64})
		both(t, of(128, 1), capacity, to(0, 63), to(64, 127))
		both(t, append(of(64, 1), 0), capacity, to(0, 63), []int{64})
		both(t, append(of(63, 1), 0), capacity, to(0, 63))
	}
	both(t, of(64, 1), 64, to(0, 63))
	both(t, append(of(64, 1), 0), 64, to(0, 63), []int{64})
}

// P16.2: a container of MaxEntries files is left out, also if an earlier and a later one have space.
func TestFitAroundManyFiles(t *testing.T) {
	sizes := slices.Concat([]int{98}, of(64, 3), []int{98, 2, 1, 2, 1})
	first(t, sizes, 200, slices.Concat([]int{0}, to(1, 34)), slices.Concat(to(35, 64), []int{65, 66, 67, 68, 69}))
	sizes = slices.Concat([]int{199}, of(64, 2), []int{190, 2, 1, 2, 0})
	first(t, sizes, 200, []int{0, 67, 69}, to(1, 64), []int{65, 66, 68})
}

// P16.3: equal sizes, and sizes in order, in the opposite order and mixed
func TestDecreasingOrder(t *testing.T) {
	both(t, of(5, 4), 8, []int{0, 1}, []int{2, 3}, []int{4})
	decreasing(t, []int{5, 5, 0, 5}, 10, []int{0, 1, 2}, []int{3})
	decreasing(t, []int{1, 2, 3, 4}, 5, []int{3, 0}, []int{2, 1})
	decreasing(t, []int{4, 3, 2, 1}, 5, []int{0, 3}, []int{1, 2})
	decreasing(t, []int{2, 3, 2, 3, 2, 3}, 3, []int{1}, []int{3}, []int{5}, []int{0}, []int{2}, []int{4})
	decreasing(t, []int{3, 4, 1, 4, 3}, 100, []int{1, 3, 0, 4, 2})
	// All sizes are different, and no two files fit into one container.
	var up, down []int
	var byIndex, fromLast [][]int
	for i := range 512 {
		up, down = append(up, 1000+i), append(down, 1511-i)
		byIndex, fromLast = append(byIndex, []int{i}), append(fromLast, []int{511 - i})
	}
	first(t, up, 1999, byIndex...)
	decreasing(t, up, 1999, fromLast...)
	both(t, down, 1999, byIndex...)
}

// P16.2, P16.3: capacities that the sums of sizes cannot reach
func TestFitWithoutFullContainers(t *testing.T) {
	both(t, of(7, 3), 10, []int{0, 1, 2}, []int{3, 4, 5}, []int{6})
	both(t, of(7, 2), 5, []int{0, 1}, []int{2, 3}, []int{4, 5}, []int{6})
	both(t, of(4, 6), 11, []int{0}, []int{1}, []int{2}, []int{3})
	first(t, []int{4, 6, 4, 6}, 9, []int{0, 2}, []int{1}, []int{3})
	decreasing(t, []int{4, 6, 4, 6}, 9, []int{1}, []int{3}, []int{0, 2})
}

// P16.2, P16.3: many sizes and capacities
func TestFitOfMixedSizes(t *testing.T) {
	for _, sizes := range mixedSizes() {
		for _, capacity := range capacities() {
			for _, p := range packings() {
				p.pack(t, sizes, capacity)
			}
		}
		greatest := slices.Max(sizes)
		for capacity := max(greatest-1, 1); capacity < greatest+3; capacity++ {
			for _, p := range packings() {
				p.pack(t, sizes, capacity)
			}
		}
	}
}
