package packer_test

import (
	"slices"
	"testing"

	"tapearchive/api"
	"tapearchive/packer"
)

// checkFilled checks P16.6 for Fill: the pieces cover every file exactly once, in order, and every container but the last one is full or has MaxEntries pieces.
func checkFilled(t *testing.T, sizes []int, capacity int) {
	t.Helper()
	l, e := packer.Fill(sizes, capacity)
	if e != api.OK {
		t.Fatalf("Fill of %s with the capacity %d: error %d", short(sizes), capacity, e)
	}
	for i, container := range l {
		n := bytesIn(container)
		if len(container) == 0 || len(container) > api.MaxEntries || n > capacity {
			t.Errorf("%s, capacity %d: container %d has %d pieces and %d bytes", short(sizes), capacity, i, len(container), n)
		}
		if i < len(l)-1 && n < capacity && len(container) < api.MaxEntries {
			t.Errorf("%s, capacity %d: container %d of %d has only %d pieces and %d bytes", short(sizes), capacity, i, len(l), len(container), n)
		}
	}
	rest := slices.Concat(l...)
	for file, size := range sizes {
		at := 0
		for first := true; first || at < size; first = false {
			if len(rest) == 0 || rest[0].File != file || rest[0].Offset != at || rest[0].Length == 0 && size > 0 {
				t.Fatalf("%s, capacity %d: file %d from %d on: %s", short(sizes), capacity, file, at, short(rest))
			}
			at += rest[0].Length
			rest = rest[1:]
		}
		if at != size {
			t.Errorf("%s, capacity %d: file %d has %d bytes", short(sizes), capacity, file, at)
		}
	}
	if len(rest) > 0 {
		t.Errorf("%s, capacity %d: %s is left", short(sizes), capacity, short(rest))
	}
}

// checkPacked checks P16.6 for FirstFit and Decreasing: each file is in one container, of which none is empty or has too much, and there are at least Least of them. It returns the files in each container in the order in which they were taken.
func checkPacked(t *testing.T, p packing, sizes []int, capacity int) [][]int {
	t.Helper()
	l, e := p.call(sizes, capacity)
	if e != api.OK {
		t.Fatalf("%s of %s with the capacity %d: error %d", p.name, short(sizes), capacity, e)
	}
	for i, container := range l {
		if len(container) == 0 || len(container) > api.MaxEntries || sumOf(sizes, container) > capacity {
			t.Errorf("%s of %s, capacity %d: container %d has %v", p.name, short(sizes), capacity, i, container)
		}
	}
	all := slices.Concat(l...)
	slices.Sort(all)
	if !slices.Equal(all, to(0, len(sizes)-1)) {
		t.Errorf("%s of %s, capacity %d: %s", p.name, short(sizes), capacity, short(l))
	}
	if n := packer.Least(sizes, capacity); len(l) < n {
		t.Errorf("%s of %s, capacity %d: %d containers, but Least is %d", p.name, short(sizes), capacity, len(l), n)
	}
	return l
}

// checkFirst checks P16.6: when a file was placed, no container before its own had space for it; before says whether a file was placed before another one.
func checkFirst(t *testing.T, p packing, sizes []int, capacity int, before func(a, b int) bool) {
	t.Helper()
	l := checkPacked(t, p, sizes, capacity)
	for i, container := range l {
		for k, file := range container {
			if k > 0 && !before(container[k-1], file) {
				t.Errorf("%s of %s, capacity %d: container %d has %v", p.name, short(sizes), capacity, i, container)
			}
			for _, earlier := range l[:i] {
				n, sum := 0, 0
				for _, other := range earlier {
					if before(other, file) {
						n, sum = n+1, sum+sizes[other]
					}
				}
				if n < api.MaxEntries && sum+sizes[file] <= capacity {
					t.Errorf("%s of %s, capacity %d: file %d is in container %d and not in %v", p.name, short(sizes), capacity, file, i, earlier)
				}
			}
		}
	}
}

// checkLaws checks P16.6 for sizes and a capacity.
func checkLaws(t *testing.T, sizes []int, capacity int) {
	t.Helper()
	checkFilled(t, sizes, capacity)
	if slices.Max(append(sizes, 0)) > capacity {
		return
	}
	checkFirst(t, packings()[0], sizes, capacity, func(a, b int) bool { return a < b })
	checkFirst(t, packings()[1], sizes, capacity, func(a, b int) bool {
		return sizes[a] > sizes[b] || sizes[a] == sizes[b] && a < b
	})
}

// P16.6: all lists of up to five small sizes
func TestLawsOfSmallSizes(t *testing.T) {
	for n := range 6 {
		for _, sizes := range lists(n, 4) {
			for capacity := 1; capacity <= 9; capacity++ {
				checkLaws(t, sizes, capacity)
			}
		}
	}
}

// P16.6: many sizes and capacities
func TestLawsOfMixedSizes(t *testing.T) {
	for _, sizes := range mixedSizes() {
		for _, capacity := range capacities() {
			if len(sizes) < 100 || capacity > 60 {
				checkLaws(t, sizes, capacity)
			}
		}
		checkLaws(t, sizes, max(slices.Max(sizes), 1))
	}
	for _, n := range []int{63, 64, 65, 128, 512} {
		for _, size := range []int{0, 1, 2, 4096} {
			for _, capacity := range capacities() {
				if capacity >= size {
					checkLaws(t, of(n, size), capacity)
				}
			}
		}
	}
}

// P16.5, P16.6: the payloads of all containers of Fill are the bytes of all files, one after another, and each entry has its bytes.
func TestPayloadsOfFill(t *testing.T) {
	for _, sizes := range mixedSizes() {
		x := files(sizes)
		for _, capacity := range []int{1, 7, 64, 1024, 1 << 50} {
			if len(sizes) > 3 && capacity < 64 {
				continue
			}
			l, _ := packer.Fill(sizes, capacity)
			var whole []byte
			for i, pieces := range l {
				list, payload, e := packer.Entries(pieces, x.ids, x.versions, x.data)
				if e != api.OK || len(list) != len(pieces) || len(payload) != bytesIn(pieces) {
					t.Fatalf("%s, capacity %d: container %d: %s, %d bytes, error %d", short(sizes), capacity, i, short(list), len(payload), e)
				}
				whole = append(whole, payload...)
			}
			if !slices.Equal(whole, slices.Concat(x.data...)) {
				t.Errorf("%s, capacity %d: other bytes", short(sizes), capacity)
			}
		}
	}
}
