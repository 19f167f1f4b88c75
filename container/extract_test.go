package container_test

import (
	"bytes"
	"slices"
	"testing"

	"tapearchive/api"
)

// bytesIn is a part of the bytes of an entry.
type bytesIn struct{ entry, offset, length int }

// blocksFor returns those blocks of a container that have these bytes.
func blocksFor(h api.Header, payload []byte, x bytesIn) []api.Block {
	s := needOf(h, x.entry, x.offset, x.length).s
	return buildOf(h, payload).l[s.From:][:s.Count]
}

// take checks that Extract returns these bytes.
func take(t *testing.T, h api.Header, payload []byte, x bytesIn, l []api.Block) {
	t.Helper()
	want := partOf(h, x.entry, payload)[x.offset:][:x.length]
	if got := extract(t, h, x.entry, x.offset, x.length, l); got.e != api.OK || !bytes.Equal(got.b, want) {
		t.Errorf("version %d: %+v from %s: %+v, want %x", h.Version, x, name(l), got, want)
	}
}

// samples are bytes within one block, at its borders and across many blocks, of entries of 70, 0, 300 and 1 bytes.
func samples() []bytesIn {
	list := []bytesIn{{0, 0, 1}, {0, 0, 60}, {0, 59, 2}, {0, 69, 1}, {0, 0, 70}, {0, 10, 55}, {3, 0, 1}}
	for _, offset := range []int{0, 1, 49, 50, 51, 57, 58, 59, 109, 110, 111, 299} {
		for _, length := range []int{1, 2, 10, 59, 60, 61, 64, 65, 120, 299, 300} {
			if offset+length <= 300 {
				list = append(list, bytesIn{2, offset, length})
			}
		}
	}
	return list
}

// P15.6: bytes within one block, at its borders and across many blocks, in both versions
func TestExtract(t *testing.T) {
	for version := 1; version <= 2; version++ {
		h, payload := parts(version, 70, 0, 300, 1)
		for _, x := range samples() {
			take(t, h, payload, x, blocksFor(h, payload, x))
		}
	}
}

// P15.6: other numbers of blocks than Need says
func TestExtractFromOtherNumbersOfBlocks(t *testing.T) {
	for version := 1; version <= 2; version++ {
		h, payload := parts(version, 70, 0, 300, 1)
		for _, x := range append(samples(), bytesIn{1, 0, 0}, bytesIn{2, 64, 0}) {
			l := blocksFor(h, payload, x)
			more := []api.Block{data(string(mixed(64))), mark(), {Bad: true}, {}}
			if len(l) > 0 {
				more = append(more, l[0])
			}
			for _, b := range more {
				checkNumber(t, h, x, append(cloned(l), b))
				checkNumber(t, h, x, inserted(l, 0, b))
				checkNumber(t, h, x, append(cloned(l), b, b))
			}
			for n := range l {
				checkNumber(t, h, x, l[:n])
				checkNumber(t, h, x, l[n+1:])
			}
			checkNumber(t, h, x, append(buildOf(h, payload).l, mark()))
		}
	}
}

// checkNumber checks that Extract from these blocks returns ErrInvalid because of their number.
func checkNumber(t *testing.T, h api.Header, x bytesIn, l []api.Block) {
	t.Helper()
	if got := extract(t, h, x.entry, x.offset, x.length, l); got.e != api.ErrInvalid || len(got.b) != 0 {
		t.Errorf("version %d: %+v from %s: %+v", h.Version, x, name(l), got)
	}
}

// P15.6: every error in each of the blocks, and two errors in two blocks
func TestExtractFromBadBlocks(t *testing.T) {
	for version := 1; version <= 2; version++ {
		h, payload := parts(version, 70, 0, 300, 1)
		for _, x := range samples() {
			l := blocksFor(h, payload, x)
			for i := range l {
				for _, first := range badBlocks(version, l[i]) {
					checkBad(t, h, payload, x, replaced(l, i, first.b), first.e)
					for k := i + 1; k < len(l); k += 2 {
						for _, second := range badBlocks(version, l[k]) {
							want := first.e
							if version == 1 && want == api.ErrChecksum {
								want = second.e
							}
							checkBad(t, h, payload, x, replaced(replaced(l, i, first.b), k, second.b), want)
						}
					}
				}
			}
		}
	}
}

// checkBad checks that Extract returns an error; in version 1 a block with other data has none.
func checkBad(t *testing.T, h api.Header, payload []byte, x bytesIn, l []api.Block, want api.Errno) {
	t.Helper()
	if h.Version == 1 && want == api.ErrChecksum {
		want = api.OK
	}
	if got := extract(t, h, x.entry, x.offset, x.length, l); got.e != want || want != api.OK && len(got.b) != 0 {
		t.Errorf("version %d: %+v from %s: %+v, want the error %d", h.Version, x, name(l), got, want)
	}
}

// P15.6: the Sums of the header and of the entry play no part, because not all of their bytes are there.
func TestExtractWithOtherSums(t *testing.T) {
	for version := 1; version <= 2; version++ {
		h, payload := parts(version, 70, 0, 300, 1)
		for _, x := range samples() {
			l := blocksFor(h, payload, x)
			other := changed(h, func(h *api.Header) {
				h.Sum++
				h.Entries[x.entry].Sum++
			})
			take(t, other, payload, x, l)
		}
	}
}

// P15.6: in version 1 the changed bytes are returned; in version 2 those of the whole block are checked, also of other entries.
func TestExtractChangedBytes(t *testing.T) {
	for version := 1; version <= 2; version++ {
		h, payload := parts(version, 70, 0, 300, 1)
		x := bytesIn{2, 120, 4}
		l := blocksFor(h, payload, x)
		for i := range l[0].Data {
			bad := cloned(l)
			bad[0].Data[i] ^= 3
			got := extract(t, h, x.entry, x.offset, x.length, bad)
			if version == 2 && got.e != api.ErrChecksum || version == 1 && got.e != api.OK {
				t.Errorf("version %d: byte %d: %+v", version, i, got)
			}
		}
	}
}

// P15.6: random bytes of random containers, whose blocks are sometimes changed
func TestExtractOfRandomBytes(t *testing.T) {
	var r random
	counts := map[api.Errno]int{}
	list := slices.DeleteFunc(small(), func(c input) bool { return len(c.payload) == 0 || len(c.h.Entries) == 0 })
	for range 10000 {
		c := list[r.below(len(list))]
		x := bytesIn{entry: r.below(len(c.h.Entries))}
		n := c.h.Entries[x.entry].Length
		x.offset = r.below(n + 1)
		x.length = r.below(n - x.offset + 1)
		l := blocksFor(c.h, c.payload, x)
		if r.below(2) == 0 {
			l = randomBlocks(&r, l)
		} else {
			take(t, c.h, c.payload, x, l)
		}
		counts[extract(t, c.h, x.entry, x.offset, x.length, l).e]++
	}
	for _, e := range []api.Errno{api.OK, api.ErrInvalid, api.ErrSyntax, api.ErrChecksum, api.ErrMedia} {
		if counts[e] < 50 {
			t.Errorf("the numbers of errors are %v", counts)
		}
	}
}
