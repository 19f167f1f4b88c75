package volume_test

import (
	"fmt"
	"slices"
	"testing"

	"tapearchive/api"
)

// adds checks that Append returns the cartridge with a container and a mark behind its blocks, and the number of the first one.
func adds(t *testing.T, what string, c api.Cartridge, b built) api.Cartridge {
	t.Helper()
	got := add(t, what, c, b.l)
	want := c
	want.Blocks = slices.Concat(c.Blocks, b.marked())
	if got.e != api.OK || got.first != len(c.Blocks) || !sameCartridge(got.c, want) {
		t.Errorf("%s: Append of %s to %s: %s", what, b, name(c), got)
	}
	return got.c
}

// denies checks that Append returns an error, and zero values with it.
func denies(t *testing.T, what string, c api.Cartridge, l []api.Block, want api.Errno) {
	t.Helper()
	if got := add(t, what, c, l); got.e != want || got.first != 0 || !sameCartridge(got.c, api.Cartridge{}) {
		t.Errorf("%s: Append to %s of %s: %s, want the error %d", what, name(c), name(api.Cartridge{Blocks: l}), got, want)
	}
}

// P18.2: containers of all kinds, behind the label and behind one another
func TestAppend(t *testing.T) {
	all := holding()
	for _, b := range containers() {
		adds(t, "behind the label", holding(), b)
		all = adds(t, "behind the others", all, b)
		for _, c := range few() {
			adds(t, "behind another one", holding(b.marked()), c)
		}
	}
	if s := find(t, "all of them", all); len(s.list) != len(containers()) {
		t.Errorf("%d containers", len(s.list))
	}
}

// P18.2: labels of three blocks, and other cartridges
func TestAppendToOtherCartridges(t *testing.T) {
	for _, b := range few() {
		c := blank(20)
		c.Barcode, c.Epoch = capitals[:24], 1<<50
		c = formats(t, "a long label", c, letters[:24], 1<<40-1, 1<<50)
		c.Loads, c.Passes = 1<<50, 1<<50
		adds(t, "a worn cartridge", c, b)
		c.WriteOnce = true
		adds(t, "a write-once cartridge", adds(t, "a write-once cartridge", c, b), b)
		c.Geometry = api.Geometry{Wraps: 20, Length: 1}
		adds(t, "many wraps", c, b)
	}
}

// P18.2: blocks that belong to no container are before it, with a mark at the end.
func TestAppendBehindAnything(t *testing.T) {
	for _, x := range pieces() {
		for _, b := range few() {
			c := holding(x.l)
			if c.Blocks[len(c.Blocks)-1].Mark {
				adds(t, x.name, c, b)
			} else {
				denies(t, x.name, c, b.l, api.ErrState)
			}
			for _, last := range []api.Block{mark(), badMark()} {
				adds(t, x.name+" and a mark", holding(x.l, one(last)), b)
			}
			for _, last := range []api.Block{data("x"), badData("x"), b.l[0], bad(b.l[0])} {
				denies(t, x.name+" and a block", holding(x.l, one(last)), b.l, api.ErrState)
			}
		}
	}
}

// P18.2: lists that are not the blocks of one container
func TestListsThatAreNoContainer(t *testing.T) {
	for _, c := range []api.Cartridge{holding(), holding(sample().marked())} {
		denies(t, "nil", c, nil, api.ErrInvalid)
		denies(t, "an empty list", c, []api.Block{}, api.ErrInvalid)
		for _, b := range containers() {
			for n := range b.l {
				denies(t, "the first blocks", c, b.l[:n], api.ErrInvalid)
				denies(t, "the last blocks", c, b.l[n+1:], api.ErrInvalid)
				denies(t, "a block is missing", c, slices.Delete(cloned(b.l), n, n+1), api.ErrInvalid)
			}
			for _, more := range []api.Block{mark(), badMark(), data("x"), badData("x"), {}, {Mark: true, Data: []byte("x")}, b.l[0], b.l[len(b.l)-1]} {
				denies(t, "one block more", c, append(cloned(b.l), more), api.ErrInvalid)
				denies(t, "one block before", c, inserted(b.l, 0, more), api.ErrInvalid)
			}
			denies(t, "two containers", c, slices.Concat(b.l, b.l), api.ErrInvalid)
			denies(t, "two containers and a mark", c, slices.Concat(b.marked(), b.l), api.ErrInvalid)
		}
		for _, l := range [][]api.Block{{{}}, {mark()}, {data("x")}, {badMark()}, labelBlocks(own(c)), divided(mixed(64, 1)), slices.Repeat([]api.Block{data("x")}, 5000)} {
			denies(t, "other blocks", c, l, api.ErrInvalid)
		}
	}
}

// P18.2: a mark among the blocks of a container, and damage of each one of them
func TestDamagedContainers(t *testing.T) {
	c := holding()
	for _, b := range append(containers(), sample()) {
		for at := range b.l {
			for _, other := range []api.Block{mark(), badMark(), {}, data("x"), {Mark: true, Data: b.l[at].Data}} {
				denies(t, fmt.Sprint("another block at ", at), c, with(b.l, at, other), api.ErrInvalid)
				denies(t, fmt.Sprint("one more block at ", at), c, inserted(b.l, at, other), api.ErrInvalid)
			}
			denies(t, fmt.Sprint("a bad block at ", at), c, changed(b.l, at, bad), api.ErrInvalid)
			for _, byteAt := range []int{0, len(b.l[at].Data) / 2, len(b.l[at].Data) - 1} {
				denies(t, fmt.Sprintf("another byte %d of block %d", byteAt, at), c, changed(b.l, at, func(x api.Block) api.Block { x.Data[byteAt]++; return x }), api.ErrInvalid)
			}
			denies(t, fmt.Sprint("a short block at ", at), c, changed(b.l, at, func(x api.Block) api.Block { x.Data = x.Data[:len(x.Data)-1]; return x }), api.ErrInvalid)
			denies(t, fmt.Sprint("a long block at ", at), c, changed(b.l, at, func(x api.Block) api.Block { x.Data = append(x.Data, 0); return x }), api.ErrInvalid)
		}
	}
}

// P18.2: cartridges of which Label returns an error
func TestAppendWithoutLabel(t *testing.T) {
	for _, x := range unlabeled() {
		for _, b := range few() {
			denies(t, x.name, x.c, b.l, x.e)
		}
		denies(t, x.name+", and no container", x.c, nil, x.e)
	}
}

// P18.2: volumes with one block less than is needed, as much and one more
func TestFullVolumes(t *testing.T) {
	for _, b := range append(few(), containers()...) {
		for _, before := range [][]api.Block{nil, sample().marked(), {data("torn"), mark()}} {
			used := 2 + len(before)
			for free := range len(b.l) + 1 {
				denies(t, "full", sized(used+free, before), b.l, api.ErrFull)
			}
			for more := range 2 {
				adds(t, "not full", sized(used+len(b.l)+1+more, before), b)
			}
			c := sized(used+len(b.l)+1, before)
			c.Geometry.Wraps, c.Geometry.Length = c.Geometry.Length, 1
			if c.Geometry.Wraps <= 32 {
				adds(t, "many wraps", c, b)
			}
		}
	}
	greatest := commit(1, 1, 4092*64)
	c := adds(t, "the greatest container", holding(), greatest)
	if len(c.Blocks) != 4096 {
		t.Errorf("%d blocks", len(c.Blocks))
	}
	if s := find(t, "the greatest container", c); s.tail != 0 || !sameFound(s.list, []api.Found{greatest.found(2)}) {
		t.Errorf("the greatest container: %s", s)
	}
	gives(t, "the greatest container", c, greatest.found(2), greatest)
	denies(t, "one byte more", holding(), commit(1, 1, 4092*64+1).l, api.ErrFull)
	denies(t, "behind a mark", holding(one(mark())), greatest.l, api.ErrFull)
	denies(t, "the greatest payload", holding(), commit(1, 2, 4096*64).l, api.ErrFull)
}

// P18.2: locked cartridges, with and without enough space
func TestLockedVolumes(t *testing.T) {
	for _, b := range few() {
		for _, free := range []int{0, 1, 50} {
			c := sized(2 + free)
			c.Locked = true
			denies(t, "locked", c, b.l, api.ErrProtected)
			c.WriteOnce = true
			denies(t, "locked and write-once", c, b.l, api.ErrProtected)
		}
	}
}
