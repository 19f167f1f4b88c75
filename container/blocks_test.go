package container_test

import (
	"slices"
	"testing"

	"tapearchive/api"
	"tapearchive/container"
)

// framed returns headers whose frames have each number of bytes from 40 on up to most, and others.
func framed(t *testing.T, most int) map[int]api.Header {
	t.Helper()
	list := map[int]api.Header{}
	for entries := range 30 {
		h := api.Header{ID: 1, Version: 1, Entries: slices.Repeat([]api.Entry{{File: 1, Version: 1}}, entries)}
		for bits := range 8 {
			h.ID = 1 << (7 * bits)
			h.Commit = 0
			list[10+len(bodyOf(numbersOf(h)))] = h
			h.Commit = 1 << 50
			list[10+len(bodyOf(numbersOf(h)))] = h
		}
	}
	for n := 40; n <= most; n++ {
		if _, ok := list[n]; !ok {
			t.Fatalf("no header has a frame of %d bytes", n)
		}
	}
	return list
}

// P15.1: headers whose frames fill their blocks, lack a byte for this, and have one more
func TestHeaderBlocks(t *testing.T) {
	list := framed(t, 260)
	for n, h := range list {
		checkValid(t, h)
		if got := container.HeaderBlocks(h); got != (n+63)/64 {
			t.Errorf("a frame of %d bytes: %d blocks", n, got)
		}
	}
	for n, want := range map[int]int{63: 1, 64: 1, 65: 2, 127: 2, 128: 2, 129: 3, 191: 3, 192: 3, 193: 4} {
		if got := container.HeaderBlocks(list[n]); got != want {
			t.Errorf("a frame of %d bytes: %d blocks, want %d", n, got, want)
		}
	}
	longest, _ := great(1)
	// 8 + 1 + 1 + 8 + 1 + 1 + 1 + 8 numbers in front, 1 for 64 entries of 8 + 8 + 1 + 2 + 5, 3 and 5 behind them, and 10 of the frame
	if got := container.HeaderBlocks(longest); got != (29+1+64*24+8+10+63)/64 {
		t.Errorf("the longest header has %d blocks", got)
	}
}

// P15.1: the number of payload blocks, in both versions
func TestBlocks(t *testing.T) {
	for _, c := range []struct{ version, size, want int }{
		{1, 0, 0}, {1, 1, 1}, {1, 63, 1}, {1, 64, 1}, {1, 65, 2}, {1, 127, 2}, {1, 128, 2}, {1, 129, 3}, {1, 1<<18 - 1, 4096}, {1, 1 << 18, 4096},
		{2, 0, 0}, {2, 1, 1}, {2, 59, 1}, {2, 60, 1}, {2, 61, 2}, {2, 119, 2}, {2, 120, 2}, {2, 121, 3}, {2, 1<<18 - 1, 4370}, {2, 1 << 18, 4370},
	} {
		for _, kind := range []int{api.ContainerParity, api.ContainerLog} {
			h, _ := withoutParts(kind, c.version, c.size)
			if got := container.Blocks(h); got != 1+c.want {
				t.Errorf("version %d, %d bytes: %d blocks, want 1 and %d", c.version, c.size, got, c.want)
			}
		}
	}
	for version, want := range map[int]int{1: 4096, 2: 4370} {
		h, _ := great(version)
		if got := container.Blocks(h); got != container.HeaderBlocks(h)+want {
			t.Errorf("version %d: the longest container has %d blocks", version, got)
		}
	}
	for n, h := range framed(t, 64) {
		for _, size := range []int{0, 60, 61, 64, 65} {
			h.Entries, h.Kind, h.ID, h.Size = nil, api.ContainerLog, 0, size
			checkValid(t, h)
			h.Version = 2
			if !checkValid(t, h) {
				t.Errorf("a log of %d bytes and of %d is not valid", n, size)
			}
		}
	}
}

// P15.1: 0 for headers that are not valid
func TestBlocksOfInvalidHeaders(t *testing.T) {
	for _, c := range invalid() {
		if n, m := container.HeaderBlocks(c.h), container.Blocks(c.h); n != 0 || m != 0 {
			t.Errorf("%s: HeaderBlocks %d, Blocks %d", c.name, n, m)
		}
	}
}
