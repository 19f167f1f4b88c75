package container_test

import (
	"bytes"
	"math"
	"slices"
	"testing"

	"tapearchive/api"
	"tapearchive/container"
)

// roomy returns the same blocks with room behind them, and behind the data of each one.
func roomy(l []api.Block) []api.Block {
	l = append(cloned(l), data("behind"), data("them"))[:len(l)]
	for i := range l {
		n := len(l[i].Data)
		l[i].Data = append(slices.Clone(l[i].Data), "behind"...)[:n]
	}
	return l
}

// allOf returns blocks with all that is in their memory, in new memory.
func allOf(l []api.Block) []api.Block {
	l = slices.Clone(l[:cap(l)])
	for i := range l {
		l[i].Data = slices.Clone(l[i].Data[:cap(l[i].Data)])
	}
	return l
}

// spoil changes all that is in the memory of blocks.
func spoil(l []api.Block) {
	l = l[:cap(l)]
	for i := range l {
		spoilBytes(l[i].Data)
		l[i] = api.Block{Mark: true, Bad: true, Data: []byte("spoilt")}
	}
}

// spoilBytes changes all that is in the memory of bytes.
func spoilBytes(b []byte) {
	b = b[:cap(b)]
	for i := range b {
		b[i] += 77
	}
}

// spoilHeader changes all that is in the memory of a header.
func spoilHeader(h api.Header) {
	entries := h.Entries[:cap(h.Entries)]
	for i := range entries {
		entries[i] = api.Entry{File: 77}
	}
}

// roomyHeader returns the same header with room behind its entries.
func roomyHeader(h api.Header) api.Header {
	n := len(h.Entries)
	h.Entries = append(slices.Clone(h.Entries), api.Entry{File: 88}, api.Entry{File: 99})[:n]
	return h
}

// R3: Build changes neither the header nor the payload, nor what is behind them, and its results share no memory with them, with each other, or with those of another call.
func TestBuildSharesNoMemory(t *testing.T) {
	for _, c := range append(small(), containers()[0]) {
		h := roomyHeader(c.h)
		entries := slices.Clone(h.Entries[:cap(h.Entries)])
		payload := append(slices.Clone(c.payload), "behind"...)[:len(c.payload)]
		memory := slices.Clone(payload[:cap(payload)])
		want := buildOf(c.h, c.payload)

		l, got, _ := container.Build(h, payload)
		again, gotAgain, _ := container.Build(h, payload)
		spoil(again)
		spoilHeader(gotAgain)
		if !slices.Equal(h.Entries[:cap(h.Entries)], entries) || !bytes.Equal(payload[:cap(payload)], memory) {
			t.Errorf("%+v: its memory or that of the payload has been changed", c.h)
		}
		spoilHeader(h)
		spoilBytes(payload)
		if !same(got, want.h) {
			t.Errorf("%+v: the header of the result shares memory", c.h)
		}
		_ = append(got.Entries, api.Entry{File: 66})
		spoilHeader(got)
		checkSeparate(t, l, want.l)
	}
}

// checkSeparate checks that blocks are these, and that each change of one of them, in all of its memory, changes no other one.
func checkSeparate(t *testing.T, l, want []api.Block) {
	t.Helper()
	if !equal(l, want) {
		t.Errorf("%s, want %s", name(l), name(want))
	}
	want = cloned(want)
	for i := range l {
		spoilBytes(l[i].Data)
		spoilBytes(want[i].Data)
	}
	if !equal(l, want) {
		t.Errorf("two blocks share memory: %s, want %s", name(l), name(want))
	}
}

// R3: Parse, Payload and Extract do not change the blocks, nor what is behind them, and their results share no memory with them, or with those of another call.
func TestReadingSharesNoMemory(t *testing.T) {
	for _, c := range small() {
		l := roomy(append(buildOf(c.h, c.payload).l, data("x"), mark()))
		before := allOf(l)
		h, _, _ := container.Parse(l)
		other, _, _ := container.Parse(l)
		spoilHeader(other)
		paidHeader, b, _ := container.Payload(l)
		other, again, _ := container.Payload(l)
		spoilHeader(other)
		spoilBytes(again)
		if !equal(allOf(l), before) {
			t.Errorf("%s has become %s", name(before), name(allOf(l)))
		}
		spoil(l)
		if !same(h, c.h) || !same(paidHeader, c.h) || !bytes.Equal(b, c.payload) {
			t.Errorf("the results for %+v share memory: %+v, %+v, %x", c.h, h, paidHeader, b)
		}
	}
}

// R3: Extract changes neither the header nor the blocks, and its result shares no memory with them, or with that of another call.
func TestExtractSharesNoMemory(t *testing.T) {
	for version := 1; version <= 2; version++ {
		h, payload := parts(version, 70, 0, 300, 1)
		for _, x := range append(samples(), bytesIn{1, 0, 0}) {
			l := roomy(blocksFor(h, payload, x))
			before := allOf(l)
			given := roomyHeader(h)
			entries := slices.Clone(given.Entries[:cap(given.Entries)])
			b, _ := container.Extract(given, x.entry, x.offset, x.length, l)
			again, _ := container.Extract(given, x.entry, x.offset, x.length, l)
			spoilBytes(again)
			if !equal(allOf(l), before) || !slices.Equal(given.Entries[:cap(given.Entries)], entries) {
				t.Errorf("version %d, %+v: the memory of the arguments has been changed", version, x)
			}
			spoil(l)
			spoilHeader(given)
			if want := partOf(h, x.entry, payload)[x.offset:][:x.length]; !bytes.Equal(b, want) {
				t.Errorf("version %d, %+v: the result shares memory: %x, want %x", version, x, b, want)
			}
		}
	}
}

// R3: Valid, HeaderBlocks, Blocks and Need do not change what is behind the entries.
func TestEntriesAreNotChanged(t *testing.T) {
	for _, base := range append(bases(), invalid()[0].h) {
		h := roomyHeader(base)
		entries := slices.Clone(h.Entries[:cap(h.Entries)])
		for range 2 {
			container.Valid(h)
			container.HeaderBlocks(h)
			container.Blocks(h)
			for _, n := range []int{math.MinInt, -1, 0, 1, len(h.Entries), math.MaxInt} {
				container.Need(h, n, n, n)
				container.Need(h, 0, 0, n)
				container.Need(h, 0, n, 1)
			}
		}
		if !slices.Equal(h.Entries[:cap(h.Entries)], entries) || !same(h, base) {
			t.Errorf("%+v has become %+v", base, h)
		}
	}
}

// R3: what is behind the end of a slice plays no part.
func TestMemoryBehindSlices(t *testing.T) {
	for _, c := range small() {
		blocks := buildOf(c.h, c.payload).l
		for n := range blocks {
			if n < 6 || n > len(blocks)-3 {
				pay(t, blocks[:n])
				parse(t, blocks[:n])
			}
		}
		for i := range blocks {
			if i < 6 || i > len(blocks)-3 {
				l := cloned(blocks)
				l[i].Data = l[i].Data[:len(l[i].Data)/2]
				pay(t, l)
			}
		}
		if n := len(c.h.Entries); n > 1 {
			h := c.h
			h.Entries = h.Entries[:n-1]
			build(t, h, c.payload)
			build(t, h, c.payload[:len(c.payload)-c.h.Entries[n-1].Length])
		}
	}
}

// R3: nil and empty lists are equal.
func TestNilAndEmpty(t *testing.T) {
	for _, entries := range [][]api.Entry{nil, {}, make([]api.Entry, 0, 10)} {
		for _, payload := range [][]byte{nil, {}, make([]byte, 0, 100)} {
			for _, h := range []api.Header{{ID: 1, Version: 1}, {ID: 1, Version: 2}, {Kind: api.ContainerLog, Version: 1}, {ID: 1, Kind: api.ContainerParity, Version: 2, Set: 1, Data: 1, Parity: 1, Index: 1}} {
				h.Entries = entries
				if !checkValid(t, h) {
					t.Errorf("%+v is not valid", h)
				}
				got := checkBuilt(t, h, payload)
				whole(t, "nothing", got.l, got.h, nil)
				refuse(t, "no entries", h, 0, 0, 0, api.ErrNotFound)
			}
		}
	}
	for _, l := range [][]api.Block{nil, {}, make([]api.Block, 0, 100)} {
		expect(t, "no blocks", l, api.ErrTruncated)
		h, _ := parts(1, 5, 0)
		for entry := range 2 {
			if got := extract(t, h, entry, 0, 0, l); got.e != api.OK || len(got.b) != 0 {
				t.Errorf("no bytes: %+v", got)
			}
		}
		if got := extract(t, h, 0, 0, 1, l); got.e != api.ErrInvalid {
			t.Errorf("no blocks: %+v", got)
		}
	}
	h, payload := chapter(2)
	for _, empty := range [][]byte{nil, {}, make([]byte, 0, 100)} {
		l := buildOf(h, payload).l
		l[1].Data = empty
		fails(t, "a block without data", l, api.ErrSyntax)
		whole(t, "a mark behind", append(buildOf(h, payload).l, api.Block{Mark: true, Data: empty}), h, payload)
	}
}
