package volume_test

import (
	"math"
	"slices"
	"strings"
	"testing"

	"tapearchive/api"
)

// formats checks that Format returns the cartridge with a label alone, in this epoch, and that it is a volume.
func formats(t *testing.T, what string, c api.Cartridge, pool string, time, epoch int) api.Cartridge {
	t.Helper()
	got := format(t, what, c, pool, time)
	want := c
	want.Epoch = epoch
	label := api.Label{Barcode: c.Barcode, Pool: pool, Epoch: epoch, Created: time}
	want.Blocks = labelBlocks(label)
	if got.e != api.OK || !sameCartridge(got.c, want) {
		t.Errorf("%s: Format of %s: %s, want %s", what, name(c), got, name(want))
	}
	if s := examine(t, what, got.c); s.e != api.OK || s.l != label || len(s.list) != 0 || s.tail != 0 {
		t.Errorf("%s: what is formatted contains %s", what, s)
	}
	return got.c
}

// refuses checks that Format returns an error, and the zero cartridge with it.
func refuses(t *testing.T, what string, c api.Cartridge, pool string, time int, want api.Errno) {
	t.Helper()
	if got := format(t, what, c, pool, time); got.e != want || !sameCartridge(got.c, api.Cartridge{}) {
		t.Errorf("%s: Format of %s, %q, %d: %s, want the error %d", what, name(c), pool, time, got, want)
	}
}

// P18.1: cartridges without blocks, with labels of all lengths
func TestFormatOfEmptyCartridges(t *testing.T) {
	for _, barcode := range []string{"A", "0", "A1", "Z9Z9Z9Z9", capitals[:23], capitals[2:]} {
		for _, pool := range []string{"a", "z", "p-1", "log", letters[:18], letters[:19], letters[:20], letters[2:], "a" + strings.Repeat("-", 23)} {
			for _, epoch := range []int{0, 1, 63, 64, 8191, 8192, 1<<50 - 1, 1 << 50} {
				for _, time := range []int{0, 1, 70, 1<<20 - 1, 1<<40 - 1} {
					c := blank(30)
					c.Barcode, c.Epoch = barcode, epoch
					formats(t, "an empty cartridge", c, pool, time, epoch)
				}
			}
		}
	}
}

// P18.1: cartridges with blocks are erased, whatever these are.
func TestFormatOfBlocks(t *testing.T) {
	for _, x := range append(pieces(), piece{"many blocks", slices.Repeat([]api.Block{data("many")}, 4000), nil}) {
		c := blank(4096)
		c.Blocks = x.l
		formats(t, x.name, c, "p", 5, 8)
		formats(t, "a volume with "+x.name, holding(x.l), "q", 1<<40-1, 8)
		full := sized(2+len(x.l), x.l)
		formats(t, "a full volume with "+x.name, full, "p", 0, 8)
	}
	for _, x := range unlabeled() {
		if len(x.c.Blocks) > 0 {
			formats(t, x.name, x.c, "p", 5, 8)
		}
	}
}

// P18.1: a volume that is formatted again and again
func TestFormatAgain(t *testing.T) {
	c := blank(10)
	c.Epoch = 0
	for i := range 20 {
		c = formats(t, "again", c, letters[i:i+3], i*1000, i)
		if i%3 == 1 {
			c = add(t, "again", c, few()[1].l).c
		}
	}
}

// P18.1: pools that are names, and others
func TestPools(t *testing.T) {
	for _, c := range []api.Cartridge{blank(10), sized(10)} {
		epoch := c.Epoch + min(len(c.Blocks), 1)
		for x := range 256 {
			first, later := string([]byte{byte(x)}), string([]byte{'a', byte(x)})
			if strings.IndexByte(letters, byte(x)) >= 0 {
				formats(t, "a byte", c, first, 0, epoch)
			} else {
				refuses(t, "a byte", c, first, 0, api.ErrInvalid)
			}
			for _, pool := range []string{later, later + "b", letters[:22] + later[1:], letters[:22] + later} {
				if strings.IndexByte(letters+digits+"-", byte(x)) >= 0 {
					formats(t, "a later byte", c, pool, 0, epoch)
				} else {
					refuses(t, "a later byte", c, pool, 0, api.ErrInvalid)
				}
			}
		}
		for n := range 60 {
			pool := strings.Repeat("p", n)
			if n >= 1 && n <= 24 {
				formats(t, "a length", c, pool, 0, epoch)
			} else {
				refuses(t, "a length", c, pool, 0, api.ErrInvalid)
			}
		}
		for _, pool := range []string{"", "P", "A1", "1p", "-p", "p_", "p ", "p\n", "p\x00", "\xc3\xa4", "pä", strings.Repeat("p", 280), strings.Repeat("p", 1<<16+1)} {
			refuses(t, "no name", c, pool, 0, api.ErrInvalid)
		}
	}
}

// P18.1: the bounds of times
func TestTimes(t *testing.T) {
	for _, c := range []api.Cartridge{blank(10), sized(10)} {
		epoch := c.Epoch + min(len(c.Blocks), 1)
		for _, time := range []int{0, 1, 63, 64, 1<<39 + 1, 1<<40 - 2, 1<<40 - 1} {
			formats(t, "a time", c, "p", time, epoch)
		}
		for _, time := range []int{math.MinInt, math.MinInt + 1, -1 << 40, -2, -1, 1 << 40, 1<<40 + 1, 1 << 41, 1 << 50, math.MaxInt - 1, math.MaxInt} {
			refuses(t, "no time", c, "p", time, api.ErrInvalid)
		}
	}
}

// P18.1: cartridges that are worn: their counters play no part.
func TestFormatOfWornCartridges(t *testing.T) {
	for _, c := range []api.Cartridge{blank(10), sized(10)} {
		epoch := c.Epoch + min(len(c.Blocks), 1)
		for _, n := range []int{0, 1, 1<<50 - 1, 1 << 50} {
			c.Loads, c.Passes = n, 1<<50
			formats(t, "worn", c, "p", 3, epoch)
			c.Loads, c.Passes = 1<<50, n
			formats(t, "worn", c, "p", 3, epoch)
		}
	}
}

// P18.1: cartridges that are write-once or locked, with and without blocks
func TestFormatOfProtectedCartridges(t *testing.T) {
	for _, blocks := range [][]api.Block{nil, {}, {mark()}, {data("x")}, {badMark()}, labelBlocks(own(blank(10)))} {
		for _, flags := range [][2]bool{{true, false}, {false, true}, {true, true}} {
			c := blank(10)
			c.Blocks, c.WriteOnce, c.Locked = blocks, flags[0], flags[1]
			if c.Locked || len(blocks) > 0 {
				refuses(t, "protected", c, "p", 3, api.ErrProtected)
				continue
			}
			c = formats(t, "write-once", c, "p", 3, 7)
			refuses(t, "a write-once volume", c, "p", 3, api.ErrProtected)
		}
	}
}

// P18.1: the last epochs: only a cartridge with blocks needs the next one.
func TestFormatInLastEpochs(t *testing.T) {
	for epoch := 1<<50 - 2; epoch <= 1<<50; epoch++ {
		c := blank(10)
		c.Epoch = epoch
		formats(t, "no blocks", c, "p", 3, epoch)
		c.Blocks = []api.Block{data("x")}
		if epoch < 1<<50 {
			c = formats(t, "a block", c, "p", 3, epoch+1)
		}
		if c.Epoch == 1<<50 {
			refuses(t, "the last epoch", c, "p", 3, api.ErrRange)
		}
	}
}

// P18.1: cartridges with less space than the label needs, as much and more, for labels of two and three blocks
func TestFormatOfSmallCartridges(t *testing.T) {
	for _, pool := range []string{"p", letters[:24]} {
		for capacity := 1; capacity <= 5; capacity++ {
			for used := 0; used <= capacity; used++ {
				for _, g := range []api.Geometry{{Wraps: 1, Length: capacity}, {Wraps: capacity, Length: 1}} {
					c := blank(capacity)
					c.Barcode, c.Geometry, c.Blocks = capitals[:24], g, slices.Repeat([]api.Block{mark()}, used)
					need := 2
					if pool != "p" {
						need = 3
					}
					if capacity < need {
						refuses(t, "too small", c, pool, 3, api.ErrFull)
					} else {
						formats(t, "great enough", c, pool, 3, 7+min(used, 1))
					}
				}
			}
		}
	}
}

// P18.1: the label becomes longer with the epoch after erasing, such that it no longer fits.
func TestFormatWhereTheNextEpochIsLonger(t *testing.T) {
	for n := 1; n <= 24; n++ {
		for _, epoch := range []int{62, 63, 64, 8191, 1<<20 - 1, 1<<27 - 1} {
			c := blank(2)
			c.Barcode, c.Epoch, c.Blocks = capitals[:24], epoch, []api.Block{data("x")}
			pool := letters[:n]
			l := api.Label{Barcode: c.Barcode, Pool: pool, Epoch: epoch + 1, Created: 1 << 20}
			if len(labelBlocks(l)) > 2 {
				refuses(t, "the next epoch", c, pool, 1<<20, api.ErrFull)
			} else {
				formats(t, "the next epoch", c, pool, 1<<20, epoch+1)
			}
		}
	}
}

// P18.1: random cartridges, pools and times, of which each part is seldom not permitted
func TestFormatOfRandomParts(t *testing.T) {
	var r random
	all, bad := pieces(), invalid()
	n := map[api.Errno]int{}
	for range 3000 {
		c := blank(1 + r.below(12))
		if r.below(2) == 0 {
			l := all[r.below(len(all))].l
			c.Blocks = l[:min(len(l), c.Geometry.Length)]
		}
		pool, time := letters[:1+r.below(24)], r.below(1<<40)
		switch r.below(16) {
		case 0:
			pool = []string{"", "P", "-", "0", letters}[r.below(5)]
		case 1:
			time = []int{-1, 1 << 40, math.MinInt, math.MaxInt}[r.below(4)]
		case 2, 3:
			c.Locked = true
		case 4, 5:
			c.WriteOnce = true
		case 6, 7, 8, 9:
			c.Epoch = 1<<50 - r.below(2)
		case 10:
			c = bad[r.below(len(bad))].c
		}
		n[format(t, "random parts", c, pool, time).e]++
	}
	for _, e := range []api.Errno{api.OK, api.ErrInvalid, api.ErrProtected, api.ErrRange, api.ErrFull} {
		if n[e] < 100 {
			t.Errorf("the error %d: %d times", e, n[e])
		}
	}
}
