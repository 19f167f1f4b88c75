package volume_test

import (
	"bytes"
	"fmt"
	"slices"
	"testing"

	"tapearchive/api"
	"tapearchive/cartridge"
	"tapearchive/container"
	"tapearchive/volume"
)

// history is a volume with what was appended to it.
type history struct {
	c        api.Cartridge
	found    []api.Found
	appended []built
}

// started returns a volume that was formatted, in a barcode, a pool and an epoch that depend on a number.
func started(t *testing.T, seed int) history {
	t.Helper()
	r := random(seed)
	c, e := cartridge.New(capitals[:1+r.below(24)], geometry(4096), r.below(4) == 0)
	if e != api.OK {
		t.Fatal(e)
	}
	c.Epoch = r.below(1 << r.below(50))
	if r.below(2) == 0 && !c.WriteOnce {
		c.Blocks = []api.Block{data("before")}
	}
	c, e = volume.Format(c, letters[:1+r.below(24)], r.below(1<<40))
	if e != api.OK {
		t.Fatal(e)
	}
	return history{c: c}
}

// append appends a container.
func (h history) append(t *testing.T, b built) history {
	t.Helper()
	first := len(h.c.Blocks)
	c, at, e := volume.Append(h.c, b.l)
	if e != api.OK || at != first || len(c.Blocks) != first+len(b.l)+1 {
		t.Fatalf("Append of %s to %s: %d, error %d", b, name(h.c), at, e)
	}
	f := api.Found{Barcode: c.Barcode, Epoch: c.Epoch, First: first, Count: len(b.l), Header: b.h}
	return history{c, append(slices.Clone(h.found), f), append(slices.Clone(h.appended), b)}
}

// write writes further blocks.
func (h history) write(t *testing.T, l ...api.Block) history {
	t.Helper()
	c, e := cartridge.Write(h.c, len(h.c.Blocks), l)
	if e != api.OK {
		t.Fatalf("Write: error %d", e)
	}
	h.c = c
	return h
}

// check checks that Scan returns exactly the containers that were appended, Tail this number, and Load and Payload what was appended.
func (h history) check(t *testing.T, what string, tail int) {
	t.Helper()
	l, list, e := volume.Scan(h.c)
	if got := volume.Tail(h.c); e != api.OK || l.Barcode != h.c.Barcode || !sameFound(list, h.found) || got != tail {
		t.Errorf("%s: Scan of %s: %s, error %d, want %s; tail %d, want %d", what, name(h.c), short(list), e, short(h.found), got, tail)
	}
	for i, b := range h.appended {
		if blocks, e := volume.Load(h.c, h.found[i]); e != api.OK || !sameBlocks(blocks, b.l) {
			t.Errorf("%s: Load of %s: error %d", what, short(h.found[i]), e)
		}
		if x, payload, e := volume.Payload(h.c, h.found[i].First); e != api.OK || !sameHeader(x, b.h) || !bytes.Equal(payload, b.payload) {
			t.Errorf("%s: Payload at %d: %s, error %d", what, h.found[i].First, short(x), e)
		}
	}
}

// without returns random blocks that end with a mark, and in which no container is whole.
func without(r *random) []api.Block {
	all := pieces()
	for {
		var l []api.Block
		for range r.below(4) {
			l = append(l, all[r.below(len(all))].l...)
		}
		c := api.Cartridge{Blocks: append(cloned(l), mark())}
		for at := range c.Blocks {
			c.Blocks[at].Bad = false // No block is bad that is written.
		}
		is := false
		for at := range c.Blocks {
			_, _, found := wholeAt(c, at)
			is = is || found
		}
		if !is {
			return c.Blocks
		}
	}
}

// P18.7: many volumes, with containers and other blocks in any order
func TestWhatWasAppendedIsFound(t *testing.T) {
	var r random
	all := containers()
	others := 0
	for seed := range 300 {
		h := started(t, seed)
		h.check(t, "after Format", 0)
		tail := 0
		for range r.below(12) {
			if r.below(3) > 0 {
				h, tail = h.append(t, all[r.below(len(all))]), 0
			} else {
				l := without(&r)
				h, tail = h.write(t, l...), tail+len(l)
				others++
			}
			if !h.c.Blocks[len(h.c.Blocks)-1].Mark {
				t.Fatal("there is no mark")
			}
		}
		h.check(t, "after all", tail)
	}
	if others < 300 {
		t.Errorf("%d times other blocks", others)
	}
}

// P18.7: a volume is the same if it is formatted again, but for its epoch.
func TestFormattedAgain(t *testing.T) {
	for seed := range 30 {
		h := started(t, seed)
		if h.c.WriteOnce {
			continue
		}
		h = h.append(t, sample()).append(t, few()[0])
		c, e := volume.Format(h.c, "again", 5)
		if e != api.OK || c.Epoch != h.c.Epoch+1 {
			t.Fatalf("error %d", e)
		}
		for _, f := range h.found {
			if l, e := volume.Load(c, f); e != api.ErrStale || len(l) != 0 {
				t.Errorf("Load of what was erased: error %d", e)
			}
		}
		again := history{c: c}
		again.check(t, "formatted again", 0)
		again.append(t, few()[1]).append(t, sample()).check(t, "formatted again", 0)
	}
}

// P18.8: each number of blocks of each container that was written, behind none, one and two containers
func TestTornWrites(t *testing.T) {
	for seed, h := range []history{started(t, 1), started(t, 2).append(t, sample()), started(t, 3).append(t, few()[0]).append(t, few()[1]), started(t, 4).write(t, data("x"), mark())} {
		before := volume.Tail(h.c)
		for _, b := range append(containers(), few()...) {
			for n := range len(b.l) + 1 {
				what := fmt.Sprintf("%d: %d blocks of %s", seed, n, b)
				torn := h.write(t, b.l[:n]...)
				torn.check(t, what, before+n)
				if n == 0 {
					torn.append(t, b).check(t, what+", and the container", 0)
				} else if c, at, e := volume.Append(torn.c, b.l); e != api.ErrState || at != 0 || !sameCartridge(c, api.Cartridge{}) {
					t.Errorf("%s: Append: error %d", what, e)
				}
				ended := torn.write(t, mark())
				if n == len(b.l) {
					// All of its blocks are there, and now the mark is, too.
					want := h.append(t, b)
					if !sameCartridge(ended.c, want.c) {
						t.Errorf("%s and a mark: %s, want %s", what, name(ended.c), name(want.c))
					}
					ended.found, ended.appended = want.found, want.appended
					ended.check(t, what+" and a mark", 0)
				} else {
					ended.check(t, what+" and a mark", before+n+1)
				}
				ended = ended.append(t, b)
				ended.check(t, what+", a mark and the container", 0)
				ended.append(t, sample()).check(t, what+", a mark and two containers", 0)
			}
		}
	}
}

// P18.8: several torn containers, each followed by a mark, between whole ones
func TestManyTornWrites(t *testing.T) {
	var r random
	all := containers()
	for seed := range 100 {
		h, tail := started(t, seed), 0
		for range 1 + r.below(8) {
			b := all[r.below(len(all))]
			if r.below(2) == 0 {
				h, tail = h.append(t, b), 0
				continue
			}
			n := r.below(len(b.l))
			h, tail = h.write(t, b.l[:n]...), tail+n
			h.check(t, "torn", tail)
			h, tail = h.write(t, mark()), tail+1
			h.check(t, "torn, and a mark", tail)
		}
		h.append(t, sample()).check(t, "in the end", 0)
	}
}

// P18.9: every set of bad payload blocks of each container between two others
func TestDamageOfPayloads(t *testing.T) {
	for seed, b := range append(containers(), few()...) {
		h := started(t, seed).append(t, few()[1]).append(t, b).append(t, sample())
		f := h.found[1]
		header := container.HeaderBlocks(b.h)
		n := len(b.l) - header
		for set := range 1 << n {
			c := h.c
			for i := range n {
				if set>>i&1 == 1 {
					c = cartridge.Damage(c, api.Span{From: f.First + header + i, Count: 1})
				}
			}
			if _, list, e := volume.Scan(c); e != api.OK || !sameFound(list, h.found) || volume.Tail(c) != 0 {
				t.Errorf("the set %b: Scan of %s: %s, error %d", set, name(c), short(list), e)
			}
			l, e := volume.Load(c, f)
			if set > 0 {
				if e != api.ErrMedia || len(l) != 0 {
					t.Errorf("the set %b: Load: error %d", set, e)
				}
			} else if x, payload, err := container.Payload(l); e != api.OK || err != api.OK || !sameHeader(x, b.h) || !bytes.Equal(payload, b.payload) {
				t.Errorf("no damage: Load: error %d, Payload: error %d", e, err)
			}
			for _, i := range []int{0, 2} {
				if l, e := volume.Load(c, h.found[i]); e != api.OK || !sameBlocks(l, h.appended[i].l) {
					t.Errorf("the set %b: Load of container %d: error %d", set, i, e)
				}
			}
		}
	}
}

// P18.9: damage of all payload blocks of all containers of a volume, and of one byte in one of them
func TestDamageOfAllPayloads(t *testing.T) {
	h := started(t, 5)
	for _, b := range containers() {
		h = h.append(t, b)
	}
	c := h.c
	for i, f := range h.found {
		header := container.HeaderBlocks(h.appended[i].h)
		c = cartridge.Damage(c, api.Span{From: f.First + header, Count: f.Count - header})
	}
	if _, list, e := volume.Scan(c); e != api.OK || !sameFound(list, h.found) || volume.Tail(c) != 0 {
		t.Errorf("Scan: %s, error %d", short(list), e)
	}
	for i, f := range h.found {
		l, e := volume.Load(c, f)
		if x, payload, err := container.Payload(l); e != api.ErrMedia && (err != api.OK || !sameHeader(x, f.Header) || !bytes.Equal(payload, h.appended[i].payload)) {
			t.Errorf("Load of %s: error %d, Payload: error %d", short(f), e, err)
		}
	}
	for i, f := range h.found {
		if len(h.appended[i].payload) == 0 {
			continue
		}
		c := clonedCartridge(h.c)
		c.Blocks[f.First+f.Count-1].Data[0]++
		if _, list, e := volume.Scan(c); e != api.OK || !sameFound(list, h.found) {
			t.Errorf("Scan with another byte: %s, error %d", short(list), e)
		}
		owes(t, "another byte", c, f.First, api.ErrChecksum)
	}
}
