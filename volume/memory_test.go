package volume_test

import (
	"bytes"
	"slices"
	"testing"

	"tapearchive/api"
	"tapearchive/volume"
)

// roomy returns the same blocks with room behind them, and behind the data of each one.
func roomy(l []api.Block) []api.Block {
	l = append(cloned(l), data("behind"), mark())[:len(l)]
	for i := range l {
		n := len(l[i].Data)
		l[i].Data = append(l[i].Data, "behind"...)[:n]
	}
	return l
}

// roomyCartridge returns the same cartridge with such blocks.
func roomyCartridge(c api.Cartridge) api.Cartridge {
	c.Blocks = roomy(c.Blocks)
	return c
}

// allOf returns blocks with all that is in their memory, in new memory.
func allOf(l []api.Block) []api.Block {
	l = slices.Clone(l[:cap(l)])
	for i := range l {
		l[i].Data = slices.Clone(l[i].Data[:cap(l[i].Data)])
	}
	return l
}

// spoil changes all that is in the memory of blocks.
func spoil(l []api.Block) {
	l = l[:cap(l)]
	for i := range l {
		spoilBytes(l[i].Data)
		l[i] = api.Block{Mark: true, Bad: true, Data: []byte("spoilt")}
	}
}

// spoilBytes changes all that is in the memory of bytes.
func spoilBytes(b []byte) {
	b = b[:cap(b)]
	for i := range b {
		b[i] += 77
	}
}

// spoilHeader changes all that is in the memory of a header.
func spoilHeader(h api.Header) {
	entries := h.Entries[:cap(h.Entries)]
	for i := range entries {
		entries[i] = api.Entry{File: 77}
	}
}

// spoilFound changes all that is in the memory of a list of containers.
func spoilFound(list []api.Found) {
	list = list[:cap(list)]
	for i, f := range list {
		spoilHeader(f.Header)
		list[i] = api.Found{Barcode: "SPOILT", First: -1}
	}
}

// same checks that blocks are these, and that no two of them share memory.
func same(t *testing.T, what string, l, want []api.Block) {
	t.Helper()
	if !sameBlocks(l, want) {
		t.Errorf("%s: %s, want %s: memory is shared", what, name(api.Cartridge{Blocks: l}), name(api.Cartridge{Blocks: want}))
		return
	}
	want = cloned(want)
	for i := range l {
		spoilBytes(l[i].Data)
		spoilBytes(want[i].Data)
	}
	if !sameBlocks(l, want) {
		t.Errorf("%s: two blocks share memory", what)
	}
}

// kept checks that cartridges and lists of blocks have what they had in all of their memory.
func kept(t *testing.T, what string, l, before []api.Block) {
	t.Helper()
	if !sameBlocks(allOf(l), before) {
		t.Errorf("%s: the memory of the arguments has become %s", what, name(api.Cartridge{Blocks: allOf(l)}))
	}
}

// volumes are cartridges with and without a label, containers and other blocks.
func volumes() []named {
	list := []named{{"no blocks", blank(100)}, {"a label", holding()}}
	var all [][]api.Block
	for _, x := range pieces() {
		all = append(all, x.l)
		list = append(list, named{x.name, holding(x.l)}, named{x.name + " without a label", api.Cartridge{Barcode: "A1", Geometry: geometry(100), Blocks: x.l}})
	}
	for _, b := range containers() {
		all = append(all, b.marked())
	}
	return append(list, named{"all pieces and containers", holding(all...)})
}

// R3: Format does not change the cartridge, nor what is behind its blocks, and its result shares no memory with it, or with that of another call.
func TestFormatSharesNoMemory(t *testing.T) {
	for _, x := range volumes() {
		c := roomyCartridge(x.c)
		before := allOf(c.Blocks)
		want := formatOf(x.c, "p", 3)
		got, e := volume.Format(c, "p", 3)
		again, _ := volume.Format(c, "p", 3)
		spoil(again.Blocks)
		_ = append(got.Blocks, data("more"))
		kept(t, x.name, c.Blocks, before)
		spoil(c.Blocks)
		if e != want.e || e != api.OK {
			t.Errorf("%s: error %d", x.name, e)
		}
		same(t, x.name, got.Blocks, want.c.Blocks)
	}
}

// R3: Append changes neither the cartridge nor the list, nor what is behind them, and its result shares no memory with them, or with that of another call.
func TestAppendSharesNoMemory(t *testing.T) {
	for _, x := range volumes() {
		for _, b := range append(few(), containers()[12]) {
			c, l := roomyCartridge(x.c), roomy(b.l)
			cBefore, lBefore := allOf(c.Blocks), allOf(l)
			want := appendOf(x.c, b.l)
			got, first, e := volume.Append(c, l)
			again, _, _ := volume.Append(c, l)
			spoil(again.Blocks)
			_ = append(got.Blocks, data("more"))
			kept(t, x.name, c.Blocks, cBefore)
			kept(t, x.name, l, lBefore)
			spoil(c.Blocks)
			spoil(l)
			if e != want.e || first != want.first {
				t.Errorf("%s: %d, error %d", x.name, first, e)
			}
			same(t, x.name, got.Blocks, want.c.Blocks)
		}
	}
}

// R3: containers that are appended to the same volume do not know of each other.
func TestBranches(t *testing.T) {
	c := holding(few()[1].marked())
	c.Blocks = roomy(c.Blocks)
	for range 3 {
		var all []api.Cartridge
		for _, b := range few() {
			next, _, e := volume.Append(c, b.l)
			if e != api.OK {
				t.Fatal(e)
			}
			all = append(all, next)
		}
		for i, b := range few() {
			if want := slices.Concat(c.Blocks, b.marked()); !sameBlocks(all[i].Blocks, want) {
				t.Errorf("%s, want %s", name(all[i]), name(api.Cartridge{Blocks: want}))
			}
		}
		c = all[2]
	}
}

// R3: the blocks that are appended may be those of the volume itself, and one block may occur many times.
func TestOwnBlocks(t *testing.T) {
	b := sample()
	c := holding(b.marked())
	own := c.Blocks[2 : 2+len(b.l)]
	got, first, e := volume.Append(c, own)
	if e != api.OK || first != 2+len(b.l)+1 {
		t.Errorf("%d, error %d", first, e)
	}
	want := holding(b.marked(), b.marked())
	if !sameCartridge(c, holding(b.marked())) {
		t.Errorf("the volume has become %s", name(c))
	}
	spoil(c.Blocks)
	same(t, "own blocks", got.Blocks, want.Blocks)

	zeros := build(api.Header{Kind: api.ContainerLog, Version: 1}, make([]byte, 256))
	l := cloned(zeros.l)
	for i := range l[1:] {
		l[1+i] = l[1]
	}
	got, _, e = volume.Append(holding(), l)
	if e != api.OK {
		t.Errorf("error %d", e)
	}
	same(t, "one block many times", got.Blocks, holding(zeros.marked()).Blocks)
}

// R3: Label, Scan and Tail do not change the cartridge, nor what is behind its blocks, and their results share no memory with it, with that of another call, and with each other.
func TestScanSharesNoMemory(t *testing.T) {
	for _, x := range volumes() {
		c := roomyCartridge(x.c)
		before := allOf(c.Blocks)
		want := scanOf(x.c)
		l, list, e := volume.Scan(c)
		_, again, _ := volume.Scan(c)
		spoilFound(again)
		other, _ := volume.Label(c)
		tail := volume.Tail(c)
		kept(t, x.name, c.Blocks, before)
		spoil(c.Blocks)
		if l != want.l || other != want.l || e != want.e || tail != want.tail || !sameFound(list, want.list) {
			t.Errorf("%s: %s, error %d, tail %d, want %s", x.name, short(list), e, tail, want)
		}
		for i := range list {
			list[i].Header.Entries = append(list[i].Header.Entries, api.Entry{File: 5})
			want.list[i].Header.Entries = append(slices.Clone(want.list[i].Header.Entries), api.Entry{File: 5})
		}
		for i := range list {
			spoilHeader(list[i].Header)
			if !sameFound(list[i+1:], want.list[i+1:]) {
				t.Errorf("%s: two headers share memory", x.name)
			}
		}
	}
}

// R3: the entries of two equal containers share no memory.
func TestEqualContainers(t *testing.T) {
	b := sample()
	_, list, e := volume.Scan(holding(b.marked(), b.marked(), b.marked()))
	if e != api.OK || len(list) != 3 {
		t.Fatalf("%d containers, error %d", len(list), e)
	}
	spoilHeader(list[1].Header)
	if !sameHeader(list[0].Header, b.h) || !sameHeader(list[2].Header, b.h) {
		t.Errorf("%s", short(list))
	}
}

// R3: Load and Payload change neither the cartridge nor what is behind its blocks, nor the entries of the container, and their results share no memory with it, or with that of another call.
func TestReadingSharesNoMemory(t *testing.T) {
	for _, x := range volumes() {
		for first := range x.c.Blocks {
			for count := range 4 {
				c := roomyCartridge(x.c)
				before := allOf(c.Blocks)
				f := span(c, first, count)
				f.Header.Entries = []api.Entry{{File: 1}, {File: 2}}[:1]
				want, owed := loadOf(x.c, f), payloadOf(x.c, first)
				l, e := volume.Load(c, f)
				again, _ := volume.Load(c, f)
				spoil(again)
				h, payload, failed := volume.Payload(c, first)
				other, others, _ := volume.Payload(c, first)
				spoilHeader(other)
				spoilBytes(others)
				kept(t, x.name, c.Blocks, before)
				if entries := f.Header.Entries[:2]; entries[0].File != 1 || entries[1].File != 2 {
					t.Errorf("%s: the entries have become %+v", x.name, entries)
				}
				spoil(c.Blocks)
				if e != want.e || failed != owed.e || !sameHeader(h, owed.h) || !bytes.Equal(payload, owed.payload) {
					t.Errorf("%s at %d: error %d, Payload %s, error %d", x.name, first, e, short(h), failed)
				}
				same(t, x.name, l, want.l)
			}
		}
	}
}

// R3: what is behind the end of the blocks of a cartridge, and of a list, plays no part.
func TestMemoryBehindSlices(t *testing.T) {
	b := sample()
	whole := holding(b.marked(), b.marked())
	for n := range whole.Blocks {
		c := whole
		c.Blocks = whole.Blocks[:n]
		examine(t, "the first blocks", c)
		add(t, "the first blocks", c, b.l)
		load(t, "the first blocks", c, b.found(2))
		format(t, "the first blocks", c, "p", 4)
	}
	for n := range b.l {
		denies(t, "the first blocks of a container", holding(), b.l[:n], api.ErrInvalid)
	}
	adds(t, "all blocks of a container", holding(), built{b.h, b.payload, b.marked()[:len(b.l)]})
}

// R3: nil and empty lists are equal.
func TestNilAndEmpty(t *testing.T) {
	for _, l := range [][]api.Block{nil, {}, make([]api.Block, 0, 9)} {
		c := blank(20)
		c.Blocks = l
		hides(t, "no blocks", c, api.ErrTruncated)
		denies(t, "no blocks", c, sample().l, api.ErrTruncated)
		denies(t, "no container", holding(), l, api.ErrInvalid)
		owes(t, "no blocks", c, 0, api.ErrTruncated)
		if got := load(t, "no blocks", c, span(c, 0, 0)); got.e != api.OK || len(got.l) != 0 {
			t.Errorf("%s", short(got))
		}
		formats(t, "no blocks", c, "p", 3, 7)
	}
	for _, empty := range [][]byte{nil, {}, make([]byte, 0, 9)} {
		c := holding(sample().marked())
		c.Blocks[1].Data, c.Blocks[len(c.Blocks)-1].Data = empty, empty
		shows(t, "marks without data", c, 0, sample().found(2))
		adds(t, "marks without data", c, few()[1])
	}
}
