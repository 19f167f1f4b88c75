package container_test

import (
	"math"
	"slices"
	"testing"

	"tapearchive/api"
	"tapearchive/container"
)

// checkBuilt checks that Build of a header and a payload succeeds, whatever Size and Sum its argument has.
func checkBuilt(t *testing.T, h api.Header, payload []byte) built {
	t.Helper()
	got := build(t, h, payload)
	if got.e != api.OK || got.h.Size != len(payload) || got.h.Sum != crc(payload) || len(got.l) != container.Blocks(got.h) {
		t.Errorf("Build of %+v with %d bytes: %d blocks, %+v, error %d", h, len(payload), len(got.l), got.h, got.e)
	}
	return got
}

// P15.2: containers of all kinds, with payloads whose sizes are at the borders of blocks
func TestBuild(t *testing.T) {
	for _, c := range containers() {
		checkBuilt(t, c.h, c.payload)
	}
}

// P15.2: the payload blocks of each number of bytes, in both versions
func TestPayloadBlocks(t *testing.T) {
	for version := 1; version <= 2; version++ {
		room := roomOf(version)
		for n := range 5*room + 2 {
			h, payload := parts(version, n)
			blocks := checkBuilt(t, h, payload).l
			blocks = blocks[container.HeaderBlocks(h):]
			if len(blocks) != (n+room-1)/room {
				t.Errorf("version %d, %d bytes: %s", version, n, name(blocks))
			}
			for i, b := range blocks {
				size := min(room, n-i*room) + 64 - room
				if b.Mark || b.Bad || len(b.Data) != size {
					t.Errorf("version %d, %d bytes: block %d of %s", version, n, i, name(blocks))
				}
			}
		}
	}
}

// P15.2: Size and Sum of the argument play no part.
func TestBuildWithAnotherSizeAndSum(t *testing.T) {
	for _, c := range small() {
		for _, n := range ints() {
			h := c.h
			h.Size, h.Sum = n, h.Sum+uint32(n)
			if got := checkBuilt(t, h, c.payload); !same(got.h, c.h) {
				t.Errorf("Build of %+v returns %+v", h, got.h)
			}
		}
	}
}

// P15.2: a wrong Sum of the first, a middle or the last entry
func TestBuildWithWrongSums(t *testing.T) {
	for version := 1; version <= 2; version++ {
		for _, lengths := range [][]int{{3}, {0}, {5, 6}, {5, 6, 7}, {0, 0, 0}, {60, 64, 128, 1, 0}, slices.Repeat([]int{9}, 64)} {
			h, payload := parts(version, lengths...)
			for i := range h.Entries {
				for _, wrong := range []uint32{h.Entries[i].Sum + 1, ^h.Entries[i].Sum, h.Entries[i].Sum ^ 1<<31, h.Sum + 1} {
					bad := changed(h, func(h *api.Header) { h.Entries[i].Sum = wrong })
					if got := build(t, bad, payload); got.e != api.ErrChecksum {
						t.Errorf("version %d, entries of %d bytes, a wrong sum of entry %d: error %d", version, lengths, i, got.e)
					}
				}
			}
		}
	}
	// Two parts of the same length whose sums are exchanged, and a sum of another part
	h, payload := parts(1, 5, 5, 7)
	h.Entries[0].Sum, h.Entries[1].Sum = h.Entries[1].Sum, h.Entries[0].Sum
	if got := build(t, h, payload); got.e != api.ErrChecksum {
		t.Errorf("exchanged sums: error %d", got.e)
	}
	h.Entries[0].Sum, h.Entries[1].Sum = crc(payload), crc(payload)
	if got := build(t, h, payload); got.e != api.ErrChecksum {
		t.Errorf("sums of the payload: error %d", got.e)
	}
}

// P15.2: payloads that are not those of the entries
func TestBuildWithOtherPayloads(t *testing.T) {
	for _, c := range small() {
		if c.h.Kind != api.ContainerData {
			continue
		}
		n := len(c.payload)
		for _, other := range [][]byte{append(slices.Clone(c.payload), 0), mixed(n + 64), mixed(1<<18 + 1)} {
			if got := build(t, c.h, other); got.e != api.ErrInvalid {
				t.Errorf("%+v with %d bytes: error %d", c.h, len(other), got.e)
			}
		}
		if n == 0 {
			continue
		}
		if got := build(t, c.h, c.payload[:n-1]); got.e != api.ErrInvalid {
			t.Errorf("%+v with %d bytes: error %d", c.h, n-1, got.e)
		}
		for _, at := range []int{0, n / 2, n - 1} {
			other := slices.Clone(c.payload)
			other[at]++
			if got := build(t, c.h, other); got.e != api.ErrChecksum {
				t.Errorf("%+v with another byte at %d: error %d", c.h, at, got.e)
			}
		}
	}
}

// P15.2: the least and the greatest payload of containers without entries, and one byte more
func TestBuildOfGreatPayloads(t *testing.T) {
	for version := 1; version <= 2; version++ {
		for _, kind := range []int{api.ContainerParity, api.ContainerLog} {
			h, _ := withoutParts(kind, version, 0)
			for n, want := range map[int]api.Errno{0: api.OK, 1: api.OK, 1 << 18: api.OK, 1<<18 + 1: api.ErrInvalid} {
				if got := build(t, h, mixed(n)); got.e != want {
					t.Errorf("version %d, kind %d, %d bytes: error %d", version, kind, n, got.e)
				}
			}
		}
	}
}

// P15.2: headers that are not valid by each condition alone, also if a Sum of an entry is wrong
func TestBuildOfInvalidHeaders(t *testing.T) {
	for _, c := range invalid() {
		// Only the Size of the payload is that of the header.
		payload := mixed(max(0, min(c.h.Size, 1<<18+1)))
		h := c.h
		h.Size = len(payload)
		got := build(t, h, payload)
		if !validOf(h) && got.e != api.ErrInvalid {
			t.Errorf("%s: error %d", c.name, got.e)
		}
	}
	three, payload := parts(2, 5, 6, 7)
	for _, f := range fieldsOf(three) {
		for _, n := range ints() {
			build(t, with(three, f, n), payload)
			build(t, changed(with(three, f, n), func(h *api.Header) { h.Entries[1].Sum++ }), payload)
		}
	}
	if got := build(t, api.Header{}, nil); got.e != api.ErrInvalid {
		t.Errorf("no version: error %d", got.e)
	}
}

// P15.2: random headers and payloads
func TestBuildOfRandomHeaders(t *testing.T) {
	var r random
	counts := map[api.Errno]int{}
	for range 1500 {
		h := randomHeader(&r, 120)
		payload := mixed(max(0, min(h.Size, 1<<18+1)))
		if validOf(h) {
			h = summed(h, payload)
		}
		if r.below(5) == 0 && len(h.Entries) > 0 {
			h.Entries[r.below(len(h.Entries))].Sum++
		}
		if r.below(10) == 0 {
			h.Sum, h.Size = math.MaxUint32, math.MinInt
		}
		counts[build(t, h, payload).e]++
	}
	if counts[api.OK] < 500 || counts[api.ErrInvalid] < 50 || counts[api.ErrChecksum] < 50 {
		t.Errorf("the numbers of errors are %v", counts)
	}
}
