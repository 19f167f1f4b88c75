package packer_test

import (
	"slices"
	"testing"

	"tapearchive/api"
	"tapearchive/packer"
)

// into checks that Fill makes these containers.
func into(t *testing.T, sizes []int, capacity int, want ...[]packer.Piece) {
	t.Helper()
	if got := fill(t, sizes, capacity); got.e != api.OK || !equal(got.l, want) {
		t.Errorf("Fill of %s with the capacity %d: %s, want %s", short(sizes), capacity, short(got), short(want))
	}
}

// each returns whole files of one size as pieces, from one file to another one.
func each(first, last, size int) []packer.Piece {
	var l []packer.Piece
	for _, file := range to(first, last) {
		l = append(l, piece(file, 0, size))
	}
	return l
}

// P16.1: all lists of up to five small sizes
func TestFillOfSmallSizes(t *testing.T) {
	for n := range 6 {
		for _, sizes := range lists(n, 5) {
			for capacity := 1; capacity <= 8; capacity++ {
				fill(t, sizes, capacity)
			}
		}
	}
}

// P16.1: files without bytes first, between others and last
func TestFillWithoutBytes(t *testing.T) {
	into(t, []int{0}, 5, each(0, 0, 0))
	into(t, []int{0, 3}, 5, []packer.Piece{{}, piece(1, 0, 3)})
	into(t, []int{3, 0, 4}, 5, []packer.Piece{piece(0, 0, 3), piece(1, 0, 0), piece(2, 0, 2)}, []packer.Piece{piece(2, 2, 2)})
	into(t, []int{3, 0}, 5, []packer.Piece{piece(0, 0, 3), piece(1, 0, 0)})
	into(t, []int{0, 0, 3, 0, 0}, 3, []packer.Piece{{}, piece(1, 0, 0), piece(2, 0, 3), piece(3, 0, 0), piece(4, 0, 0)})
}

// P16.1: a full container still takes files without bytes, if it has fewer than MaxEntries pieces.
func TestFillWithoutBytesBehindFullContainers(t *testing.T) {
	into(t, []int{5, 0, 0, 1}, 5, []packer.Piece{piece(0, 0, 5), piece(1, 0, 0), piece(2, 0, 0)}, []packer.Piece{piece(3, 0, 1)})
	into(t, []int{7, 0, 1}, 7, []packer.Piece{piece(0, 0, 7), piece(1, 0, 0)}, []packer.Piece{piece(2, 0, 1)})
	into(t, []int{8, 0}, 4, []packer.Piece{piece(0, 0, 4)}, []packer.Piece{piece(0, 4, 4), piece(1, 0, 0)})
	first := append(each(0, 62, 1), piece(63, 0, 0))
	into(t, append(of(63, 1), 0, 0), 63, first, []packer.Piece{piece(64, 0, 0)})
}

// P16.1: more than MaxEntries files without bytes
func TestFillOfManyWithoutBytes(t *testing.T) {
	for _, capacity := range []int{1, 63, 64, 65, 1 << 50} {
		into(t, of(63, 0), capacity, each(0, 62, 0))
		into(t, of(64, 0), capacity, each(0, 63, 0))
		into(t, of(65, 0), capacity, each(0, 63, 0), each(64, 64, 0))
		into(t, of(129, 0), capacity, each(0, 63, 0), each(64, 127, 0), each(128, 128, 0))
		into(t, append(of(64, 0), 1), capacity, each(0, 63, 0), []packer.Piece{piece(64, 0, 1)})
		into(t, append(of(63, 0), 1), capacity, append(each(0, 62, 0), piece(63, 0, 1)))
	}
	if got := fill(t, of(512, 0), 9); len(got.l) != 8 {
		t.Errorf("512 files: %d containers", len(got.l))
	}
}

// P16.1: one file over many containers
func TestFillOfOneFile(t *testing.T) {
	for _, size := range []int{1, 2, 63, 64, 65, 128, 1000, 4095, 4096} {
		for _, capacity := range []int{1, 2, 3, 63, 64, 65, 1365, 2048, 4095, 4096, 4097, 1 << 50} {
			var want [][]packer.Piece
			for at := 0; at < size; at += capacity {
				want = append(want, []packer.Piece{piece(0, at, min(capacity, size-at))})
			}
			into(t, []int{size}, capacity, want...)
		}
	}
	into(t, []int{2, 7, 1}, 3, []packer.Piece{piece(0, 0, 2), piece(1, 0, 1)}, []packer.Piece{piece(1, 1, 3)}, []packer.Piece{piece(1, 4, 3)}, []packer.Piece{piece(2, 0, 1)})
}

// P16.1: containers that are full with the last byte of a file
func TestFillOfFullContainers(t *testing.T) {
	into(t, []int{5, 5, 5}, 5, each(0, 0, 5), each(1, 1, 5), each(2, 2, 5))
	into(t, []int{2, 3, 5, 1}, 5, []packer.Piece{piece(0, 0, 2), piece(1, 0, 3)}, each(2, 2, 5), each(3, 3, 1))
	into(t, []int{10, 1}, 5, []packer.Piece{piece(0, 0, 5)}, []packer.Piece{piece(0, 5, 5)}, each(1, 1, 1))
	into(t, []int{4096, 4096}, 4096, each(0, 0, 4096), each(1, 1, 4096))
}

// P16.1: containers that have MaxEntries pieces before they are full
func TestFillOfManyFiles(t *testing.T) {
	into(t, of(64, 1), 1000, each(0, 63, 1))
	into(t, of(65, 1), 1000, each(0, 63, 1), each(64, 64, 1))
	into(t, of(65, 1), 65, each(0, 63, 1), each(64, 64, 1))
	into(t, of(130, 4096), 1<<50, each(0, 63, 4096), each(64, 127, 4096), each(128, 129, 4096))
	// The last piece that a container takes is a part of a file.
	into(t, append(of(63, 2), 10, 3), 130, append(each(0, 62, 2), piece(63, 0, 4)), []packer.Piece{piece(63, 4, 6), piece(64, 0, 3)})
	// The space that is left plays no part for the next container.
	into(t, append(of(64, 1), 70), 70, each(0, 63, 1), []packer.Piece{piece(64, 0, 70)})
	into(t, append(of(64, 1), 71), 70, each(0, 63, 1), []packer.Piece{piece(64, 0, 70)}, []packer.Piece{piece(64, 70, 1)})
}

// P16.1: containers that are full with their last piece
func TestFillOfBothAtOnce(t *testing.T) {
	into(t, of(64, 1), 64, each(0, 63, 1))
	into(t, append(of(64, 1), 0), 64, each(0, 63, 1), each(64, 64, 0))
	into(t, append(of(64, 1), 1), 64, each(0, 63, 1), each(64, 64, 1))
	into(t, append(of(64, 3), 5), 192, each(0, 63, 3), each(64, 64, 5))
	into(t, append(of(63, 1), 5), 64, append(each(0, 62, 1), piece(63, 0, 1)), []packer.Piece{piece(63, 1, 4)})
	into(t, append(of(63, 1), 0, 5), 63, append(each(0, 62, 1), piece(63, 0, 0)), each(64, 64, 5))
	// One piece fewer, and one byte fewer
	into(t, append(of(63, 1), 0, 1), 64, append(each(0, 62, 1), piece(63, 0, 0)), each(64, 64, 1))
	into(t, append(of(62, 1), 2, 0, 0), 64, append(each(0, 61, 1), piece(62, 0, 2), piece(63, 0, 0)), each(64, 64, 0))
}

// P16.1: all numbers of pieces near MaxEntries, with containers that are nearly full
func TestFillNearBothBounds(t *testing.T) {
	for n := 61; n <= 66; n++ {
		for capacity := 60; capacity <= 68; capacity++ {
			for _, rest := range lists(3, 3) {
				fill(t, append(of(n, 1), rest...), capacity)
			}
			for empty := range 4 {
				fill(t, slices.Concat(of(n-empty, 1), of(empty, 0), []int{2, 0, 64, 1}), capacity)
			}
		}
	}
}

// P16.1: many sizes and capacities, and as many pieces as there may be
func TestFillOfMixedSizes(t *testing.T) {
	for _, sizes := range mixedSizes() {
		for _, capacity := range capacities() {
			if len(sizes) < 100 || capacity > 60 {
				fill(t, sizes, capacity)
			}
		}
	}
	got := fill(t, of(512, 4096), 1)
	if got.e != api.OK || len(got.l) != 512*4096 || !slices.Equal(got.l[512*4096-1], []packer.Piece{piece(511, 4095, 1)}) {
		t.Errorf("%d containers, error %d", len(got.l), got.e)
	}
}
