package volume_test

import (
	"slices"
	"testing"

	"tapearchive/api"
)

// P18.6: the label alone, and blocks behind it of which none is a container
func TestTailBehindLabel(t *testing.T) {
	for n := range 30 {
		for _, x := range []api.Block{mark(), badMark(), data("x"), badData("x"), sample().l[0]} {
			l := slices.Repeat(one(x), n)
			shows(t, "blocks behind the label", holding(l), n)
			shows(t, "blocks at the end of the capacity", sized(2+n, l), n)
		}
	}
	if s := find(t, "as many blocks as possible", holding(slices.Repeat(one(mark()), 4094))); s.tail != 4094 {
		t.Errorf("as many blocks as possible: %s", s)
	}
}

// P18.6: blocks behind the last container, and before it
func TestTailBehindContainers(t *testing.T) {
	for _, b := range few() {
		k := len(b.l) + 1
		for before := range 4 {
			for behind := range 6 {
				first, last := slices.Repeat(one(mark()), before), slices.Repeat(one(data("x")), behind)
				shows(t, "one container", holding(first, b.marked(), last), behind, b.found(2+before))
				shows(t, "two containers", holding(b.marked(), first, b.marked(), last), behind, b.found(2), b.found(2+k+before))
			}
		}
	}
}

// P18.6: labels of three blocks
func TestTailOfLongLabels(t *testing.T) {
	c := blank(20)
	c.Barcode, c.Epoch = capitals[:24], 1<<50
	for n := range 5 {
		c.Blocks = append(labelBlocks(api.Label{Barcode: c.Barcode, Pool: letters[:24], Epoch: 1 << 50}), slices.Repeat(one(data("x")), n)...)
		shows(t, "a long label", c, n)
	}
}

// P18.6: without a label there is no tail, whatever is on the cartridge.
func TestTailWithoutLabel(t *testing.T) {
	for _, x := range unlabeled() {
		hides(t, x.name, x.c, x.e)
		for _, y := range pieces() {
			c := x.c
			if len(c.Blocks) > 0 {
				c.Blocks = slices.Concat(c.Blocks, y.l)
				hides(t, x.name+", "+y.name, c, x.e)
			}
		}
	}
	for _, x := range invalid() {
		hides(t, x.name, x.c, api.ErrInvalid)
	}
}
