package cartridge_test

import (
	"math"
	"strings"
	"testing"

	"tapearchive/api"
	"tapearchive/cartridge"
)

// P10.6: what is erased, and what stays
func TestErase(t *testing.T) {
	for _, letters := range []string{"", "a", "amcz", "AMCZ", "amBMyz"} {
		for _, epoch := range []int{0, 1, 7, 1<<50 - 2, 1<<50 - 1} {
			c := holding(6, letters)
			c.Epoch = epoch
			d, e := cartridge.Erase(c)
			want := c
			want.Blocks, want.Epoch = nil, epoch+1
			if e != api.OK || !same(d, want) || !cartridge.Valid(d) {
				t.Errorf("%s: %s, %d", name(c), name(d), e)
			}
		}
	}
	c := holding(6, "am")
	c.Epoch, c.Loads, c.Passes = 1<<50-1, 1<<50, 1<<50
	d, e := cartridge.Erase(c)
	if e != api.OK || d.Epoch != 1<<50 || d.Loads != 1<<50 || d.Passes != 1<<50 {
		t.Errorf("%s, %d", name(d), e)
	}
	if d, e := cartridge.Erase(d); e != api.ErrRange || !same(d, api.Cartridge{}) {
		t.Errorf("the greatest epoch: %s, %d", name(d), e)
	}
}

// P10.6: every set of the errors together, in their order
func TestOrderOfErrorsOfErase(t *testing.T) {
	faults := []fault{
		{"loads", func(a *attempt) { a.c.Loads = -1 }, api.ErrInvalid},
		{"block", func(a *attempt) { a.c.Blocks[1].Mark = false }, api.ErrInvalid},
		{"locked", func(a *attempt) { a.c.Locked = true }, api.ErrProtected},
		{"write-once", func(a *attempt) { a.c.WriteOnce = true }, api.ErrProtected},
		{"epoch", func(a *attempt) { a.c.Epoch = 1 << 50 }, api.ErrRange},
	}
	for set := range 1 << len(faults) {
		a, want, names := attempt{c: holding(8, "amcd")}, api.OK, []string{}
		for i, f := range faults {
			if set>>i&1 == 1 {
				f.put(&a)
				names = append(names, f.name)
				if want == api.OK {
					want = f.e
				}
			}
		}
		d, e := cartridge.Erase(a.c)
		if e != want || (e == api.OK) == same(d, api.Cartridge{}) {
			t.Errorf("%s: %s, %d, want %d", strings.Join(names, ", "), name(d), e, want)
		}
	}
	for _, n := range append(extremes(), -1, 1<<50+1) {
		c := holding(6, "am")
		if c.Epoch = n; n >= 0 && n <= 1<<50 {
			continue
		}
		if d, e := cartridge.Erase(c); e != api.ErrInvalid || !same(d, api.Cartridge{}) {
			t.Errorf("the epoch %d: %s, %d", n, name(d), e)
		}
	}
}

// checkDamage checks Damage against what it must return, also twice.
func checkDamage(t *testing.T, c api.Cartridge, from, count int) {
	t.Helper()
	s := api.Span{From: from, Count: count}
	want := damaged(c, s)
	got := cartridge.Damage(c, s)
	if !same(got, want) || !cartridge.Valid(got) {
		t.Errorf("%s: Damage(%+v): %s, want %s", name(c), s, name(got), name(want))
	}
	if twice := cartridge.Damage(got, s); !same(twice, want) {
		t.Errorf("%s: Damage(%+v) twice: %s, want %s", name(c), s, name(twice), name(want))
	}
}

// P10.7: spans before, at, across and behind the blocks
func TestDamage(t *testing.T) {
	const least, most = math.MinInt, math.MaxInt
	for _, x := range []struct {
		from, count int
		want        string
	}{
		{0, 1, "Amczm"}, {1, 2, "aMCzm"}, {0, 5, "AMCZM"}, {4, 1, "amczM"}, {2, 1, "amCzm"}, {1, 3, "aMCZm"},
		{0, 0, "amczm"}, {2, 0, "amczm"}, {2, -1, "amczm"}, {2, -2, "amczm"}, {4, -5, "amczm"}, {9, -8, "amczm"}, {5, -5, "amczm"}, {-1, 0, "amczm"}, {-1, -1, "amczm"},
		{-1, 1, "amczm"}, {-1, 2, "Amczm"}, {-3, 3, "amczm"}, {-3, 4, "Amczm"}, {-3, 8, "AMCZM"}, {-3, 7, "AMCZm"}, {-9, 100, "AMCZM"},
		{4, 2, "amczM"}, {3, 99, "amcZM"}, {5, 1, "amczm"}, {5, 99, "amczm"}, {6, 6, "amczm"}, {-9, 9, "amczm"}, {-9, 10, "Amczm"},
		{0, most, "AMCZM"}, {1, most, "aMCZM"}, {4, most, "amczM"}, {5, most, "amczm"}, {2, 1 << 62, "amCZM"}, {most, most, "amczm"}, {most, 1, "amczm"}, {1 << 62, 1 << 62, "amczm"}, {-1 << 62, 1 << 62, "amczm"}, {-1 << 62, 1<<62 + 2, "AMczm"},
		{-1, most, "AMCZM"}, {least, most, "amczm"}, {least + 1, most, "amczm"}, {least + 2, most, "Amczm"}, {least + 4, most, "AMCzm"}, {least + 6, most, "AMCZM"}, {least, 1, "amczm"}, {least, least, "amczm"}, {0, least, "amczm"}, {1, least, "amczm"}, {3, least, "amczm"}, {3, least + 3, "amczm"}, {3, least + 4, "amczm"}, {most, least, "amczm"}, {-1, least, "amczm"}, {least, 0, "amczm"}, {most, 0, "amczm"},
	} {
		for _, c := range []api.Cartridge{holding(9, "amczm"), once(9, "amczm"), locked(5, "amczm")} {
			d := cartridge.Damage(c, api.Span{From: x.from, Count: x.count})
			if text(d.Blocks) != x.want || !sameButBlocks(c, d) {
				t.Errorf("%s: Damage of %d from %d: %s, want %s", name(c), x.count, x.from, name(d), x.want)
			}
			checkDamage(t, c, x.from, x.count)
		}
	}
}

// P10.7: all spans of small cartridges, and the extreme ints
func TestAllDamage(t *testing.T) {
	for _, letters := range []string{"", "m", "Z", "amczm", "aMCzm", "AMCZM"} {
		c := holding(6, letters)
		for from := -8; from <= 8; from++ {
			for count := -8; count <= 16; count++ {
				checkDamage(t, c, from, count)
			}
			for _, v := range extremes() {
				checkDamage(t, c, from, v)
				checkDamage(t, c, v, from)
			}
		}
		for _, v := range extremes() {
			for _, w := range extremes() {
				checkDamage(t, c, v, w)
			}
		}
	}
}

// P10.7: damage upon damage, and example 2
func TestDamageAgain(t *testing.T) {
	c := cartridge.Damage(holding(9, "amczm"), api.Span{From: 1, Count: 2})
	c = cartridge.Damage(c, api.Span{From: 2, Count: 2})
	if text(c.Blocks) != "aMCZm" {
		t.Errorf("%s", text(c.Blocks))
	}
	c = cartridge.Damage(holding(3, "abc"), api.Span{From: 1, Count: 5})
	if l, e := cartridge.Read(c, api.Span{From: 0, Count: 3}); text(l) != "a" || e != api.ErrMedia {
		t.Errorf("example 2: %s, %d", text(l), e)
	}
}

// P10.8: cartridges that are empty, full and Locked
func TestFree(t *testing.T) {
	for _, g := range []api.Geometry{{Wraps: 1, Length: 1}, {Wraps: 3, Length: 4}, {Wraps: 32, Length: 128}, {Wraps: 1, Length: 4096}} {
		capacity := g.Wraps * g.Length
		for _, n := range []int{0, 1, capacity / 2, capacity - 1, capacity} {
			for _, letter := range []string{"a", "m", "Z"} {
				c := api.Cartridge{Barcode: "A", Geometry: g, Blocks: blocks(strings.Repeat(letter, n))}
				if got := cartridge.Free(c); got != capacity-n {
					t.Errorf("%d of %d blocks: %d are free", n, capacity, got)
				}
				c.WriteOnce = true
				if got := cartridge.Free(c); got != capacity-n {
					t.Errorf("%d of %d blocks, write-once: %d are free", n, capacity, got)
				}
				c.Locked = true
				if got := cartridge.Free(c); got != 0 {
					t.Errorf("%d of %d blocks, write-once and locked: %d are free", n, capacity, got)
				}
				c.WriteOnce = false
				if got := cartridge.Free(c); got != 0 {
					t.Errorf("%d of %d blocks, locked: %d are free", n, capacity, got)
				}
			}
		}
	}
}
