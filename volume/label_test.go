package volume_test

import (
	"fmt"
	"slices"
	"testing"

	"tapearchive/api"
	"tapearchive/volume"
)

// hides checks that Label and Scan return an error and zero values with it, and Tail 0.
func hides(t *testing.T, what string, c api.Cartridge, want api.Errno) {
	t.Helper()
	if l, e := volume.Label(c); l != (api.Label{}) || e != want {
		t.Errorf("%s: Label of %s: %+v, error %d, want %d", what, name(c), l, e, want)
	}
	if s := find(t, what, c); s.e != want || s.l != (api.Label{}) || len(s.list) != 0 || s.tail != 0 {
		t.Errorf("%s: Scan of %s: %s, want the error %d", what, name(c), s, want)
	}
}

// P18.3: each error of the label blocks, and labels of other cartridges and epochs
func TestCartridgesWithoutLabel(t *testing.T) {
	met := map[api.Errno]bool{}
	for _, x := range unlabeled() {
		hides(t, x.name, x.c, x.e)
		met[x.e] = true
	}
	for _, e := range []api.Errno{api.ErrMedia, api.ErrSyntax, api.ErrTooLong, api.ErrTruncated, api.ErrChecksum, api.ErrTrailing, api.ErrInvalid, api.ErrCorrupt, api.ErrStale} {
		if !met[e] {
			t.Errorf("the error %d has not been met", e)
		}
	}
}

// P18.3: labels of all lengths, and whatever is behind them
func TestLabel(t *testing.T) {
	for _, barcode := range []string{"A", "A1", capitals[:24]} {
		for _, pool := range []string{"p", "log", letters[:19], letters[:24]} {
			for _, epoch := range []int{0, 1, 64, 1 << 50} {
				for _, created := range []int{0, 1, 1<<40 - 1} {
					c := blank(4096)
					c.Barcode, c.Epoch = barcode, epoch
					want := api.Label{Barcode: barcode, Pool: pool, Epoch: epoch, Created: created}
					for _, x := range append(pieces(), piece{}) {
						c.Blocks = append(labelBlocks(want), x.l...)
						if l, e := volume.Label(c); l != want || e != api.OK {
							t.Errorf("%s behind the label: %+v, error %d, want %+v", x.name, l, e, want)
						}
						if s := find(t, x.name, c); s.l != want || s.e != api.OK {
							t.Errorf("%s behind the label: %s", x.name, s)
						}
					}
				}
			}
		}
	}
}

// P18.3: the barcode of a cartridge that has become another one, also where the label is in another epoch, too
func TestOtherBarcodes(t *testing.T) {
	for _, barcode := range []string{"A", "1", "1A", "A2", "A0", "B1", "A11", "A1A", "AA1", capitals[:24]} {
		c := holding(sample().marked())
		c.Barcode = barcode
		hides(t, "another barcode", c, api.ErrCorrupt)
		c.Epoch = 8
		hides(t, "another barcode and epoch", c, api.ErrCorrupt)
		denies(t, "another barcode", c, sample().l, api.ErrCorrupt)
	}
}

// P18.3: the epoch of a cartridge that has become one less or one more, and others
func TestOtherEpochs(t *testing.T) {
	for _, epoch := range []int{0, 1, 6, 7, 8, 14, 1<<50 - 1, 1 << 50} {
		for _, written := range []int{0, 1, 7, 1<<50 - 1, 1 << 50} {
			c := blank(20)
			c.Epoch = written
			c.Blocks = append(labelBlocks(own(c)), sample().marked()...)
			c.Epoch = epoch
			what := fmt.Sprintf("the epoch %d, with the label of %d", epoch, written)
			if epoch != written {
				hides(t, what, c, api.ErrStale)
				denies(t, what, c, sample().l, api.ErrStale)
				continue
			}
			f := sample().found(2)
			f.Epoch = epoch
			shows(t, what, c, 0, f)
		}
	}
}

// P18.3: bad blocks, marks and other blocks at every place of labels of two and three blocks
func TestDamagedLabels(t *testing.T) {
	for _, pool := range []string{"p", letters[:24]} {
		base := blank(100)
		base.Barcode, base.Epoch = capitals[:24], 1<<50
		l := labelBlocks(api.Label{Barcode: base.Barcode, Pool: pool, Epoch: 1 << 50})
		for at := range l {
			for _, behind := range [][]api.Block{nil, sample().marked(), {data("x")}, {mark()}} {
				c := base
				put := func(what string, want api.Errno, blocks []api.Block) {
					t.Helper()
					c.Blocks = slices.Concat(blocks, behind)
					hides(t, fmt.Sprintf("%s %d of %d", what, at, len(l)), c, want)
				}
				put("a bad block", api.ErrMedia, changed(l, at, bad))
				put("a bad block before", api.ErrMedia, inserted(l, at, badData("x")))
				put("a bad mark before", api.ErrMedia, inserted(l, at, badMark()))
				if at < len(l)-1 {
					put("a mark instead of", api.ErrTruncated, with(l, at, mark()))
					put("a mark before", api.ErrTruncated, inserted(l, at, mark()))
				} else {
					put("a block instead of", api.ErrCorrupt, with(l, at, data("x")))
					put("a block before", api.ErrCorrupt, inserted(l, at, data("x")))
				}
			}
		}
	}
}

// P18.3: a label whose last blocks are missing, at the end of data
func TestShortLabels(t *testing.T) {
	c := blank(100)
	c.Barcode, c.Epoch = capitals[:24], 1<<50
	l := labelBlocks(api.Label{Barcode: c.Barcode, Pool: letters[:24], Epoch: 1 << 50})
	for n, want := range []api.Errno{api.ErrTruncated, api.ErrTruncated, api.ErrCorrupt, api.OK} {
		c.Blocks = l[:n]
		if want == api.OK {
			shows(t, "a whole label", c, 0)
		} else {
			hides(t, fmt.Sprint("the first blocks: ", n), c, want)
		}
	}
}
