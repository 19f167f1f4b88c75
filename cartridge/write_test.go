package cartridge_test

import (
	"slices"
	"strings"
	"testing"

	"tapearchive/api"
	"tapearchive/cartridge"
)

// checkWrite checks Write against what it must return.
func checkWrite(t *testing.T, c api.Cartridge, at int, l []api.Block) {
	t.Helper()
	want, wantError := written(c, at, l)
	got, e := cartridge.Write(c, at, l)
	if e != wantError || !same(got, want) {
		t.Errorf("%s: Write of %s at %d: %s, %d, want %s, %d", name(c), text(l), at, name(got), e, name(want), wantError)
	}
	if e == api.OK && !cartridge.Valid(got) {
		t.Errorf("%s: Write of %s at %d: %s, which is not valid", name(c), text(l), at, name(got))
	}
}

// P10.3: before, at and behind the end of data, with no blocks, as many as fit, and one more
func TestWrite(t *testing.T) {
	c := holding(5, "amc")
	for _, x := range []struct {
		at         int
		l          string
		want       string
		e          api.Errno
		onWriteOne api.Errno // of the same call with a cartridge that is WriteOnce
	}{
		{1, "x", "ax", api.OK, api.ErrProtected}, // the chapter's example: one block at 1 of three leaves two
		{0, "x", "x", api.OK, api.ErrProtected}, {2, "x", "amx", api.OK, api.ErrProtected}, {3, "x", "amcx", api.OK, api.OK},
		{0, "", "amc", api.OK, api.ErrProtected}, {1, "", "amc", api.OK, api.ErrProtected}, {2, "", "amc", api.OK, api.ErrProtected}, {3, "", "amc", api.OK, api.OK},
		{0, "mmmmm", "mmmmm", api.OK, api.ErrProtected}, {0, "vwxyzm", "", api.ErrFull, api.ErrProtected}, {0, "vwx", "vwx", api.OK, api.ErrProtected}, {0, "vw", "vw", api.OK, api.ErrProtected},
		{2, "xyz", "amxyz", api.OK, api.ErrProtected}, {2, "wxyz", "", api.ErrFull, api.ErrProtected}, {3, "yz", "amcyz", api.OK, api.OK}, {3, "xyz", "", api.ErrFull, api.ErrFull},
		{3, "m", "amcm", api.OK, api.OK}, {3, "mm", "amcmm", api.OK, api.OK}, {1, "mam", "amam", api.OK, api.ErrProtected},
		{-1, "x", "", api.ErrRange, api.ErrRange}, {-1, "", "", api.ErrRange, api.ErrRange}, {4, "x", "", api.ErrRange, api.ErrRange}, {4, "", "", api.ErrRange, api.ErrRange}, {5, "x", "", api.ErrRange, api.ErrRange}, {6, "", "", api.ErrRange, api.ErrRange},
		{-3, "x", "", api.ErrRange, api.ErrRange}, {99, "vwxyzm", "", api.ErrRange, api.ErrRange}, {-1, "vwxyzm", "", api.ErrRange, api.ErrRange},
		{3, "X", "", api.ErrInvalid, api.ErrInvalid}, {3, "M", "", api.ErrInvalid, api.ErrInvalid}, {3, "xM", "", api.ErrInvalid, api.ErrInvalid}, {-1, "xXx", "", api.ErrInvalid, api.ErrInvalid}, {0, "abcdefG", "", api.ErrInvalid, api.ErrInvalid},
	} {
		d, e := cartridge.Write(c, x.at, blocks(x.l))
		if e != x.e || text(d.Blocks) != x.want || e == api.OK && !sameButBlocks(c, d) {
			t.Errorf("Write of %q at %d: %s, %d, want %s, %d", x.l, x.at, name(d), e, x.want, x.e)
		}
		if _, e := cartridge.Write(once(5, "amc"), x.at, blocks(x.l)); e != x.onWriteOne {
			t.Errorf("Write of %q at %d, write-once: %d, want %d", x.l, x.at, e, x.onWriteOne)
		}
		wantLocked := api.ErrProtected
		if x.e == api.ErrInvalid {
			wantLocked = api.ErrInvalid
		}
		if d, e := cartridge.Write(locked(5, "amc"), x.at, blocks(x.l)); e != wantLocked || !same(d, api.Cartridge{}) {
			t.Errorf("Write of %q at %d, locked: %s, %d, want %d", x.l, x.at, name(d), e, wantLocked)
		}
		checkWrite(t, c, x.at, blocks(x.l))
	}
}

// P10.3: the chapter's example 1
func TestWriteToTheEnd(t *testing.T) {
	c, _ := cartridge.New("TAPE1", geometry(2), false)
	c, e := cartridge.Write(c, 0, blocks("ab"))
	if e != api.OK || text(c.Blocks) != "ab" {
		t.Fatalf("%s, %d", name(c), e)
	}
	if d, e := cartridge.Write(c, 2, blocks("c")); e != api.ErrFull || !same(d, api.Cartridge{}) {
		t.Errorf("%s, %d", name(d), e)
	}
}

// P10.3: all places of all small cartridges, with each flag
func TestAllWrites(t *testing.T) {
	for capacity := 1; capacity <= 6; capacity++ {
		for n := 0; n <= capacity; n++ {
			for _, c := range []api.Cartridge{holding(capacity, "aMbzmC"[:n]), once(capacity, "aMbzmC"[:n]), locked(capacity, "aMbzmC"[:n])} {
				for at := -2; at <= capacity+2; at++ {
					for count := 0; count <= capacity+2; count++ {
						checkWrite(t, c, at, blocks("mzxmywvv"[:count]))
					}
				}
			}
		}
	}
}

// P10.3: a block that is not valid, at each place among others, alone and with other errors
func TestInvalidBlocks(t *testing.T) {
	for _, c := range []api.Cartridge{holding(6, "amb"), once(6, "amb"), locked(6, "amb"), holding(6, "abcdef")} {
		for _, b := range append(invalidBlocks(), blocks("AMZ")...) {
			for _, others := range []string{"", "xyz", "mmmmmmmmmm"} {
				for i := range len(others) + 1 {
					l := slices.Insert(blocks(others), i, b)
					for _, at := range []int{-1, 0, 2, 3, 4, 6, 7} {
						if d, e := cartridge.Write(c, at, l); e != api.ErrInvalid || !same(d, api.Cartridge{}) {
							t.Errorf("%s: Write of %s with %+v at %d: %s, %d", name(c), others, b, at, name(d), e)
						}
					}
				}
			}
		}
	}
}

// attempt is a call of Write.
type attempt struct {
	c  api.Cartridge
	at int
	l  []api.Block
}

// fault puts a fault into a call of Write, or of Erase.
type fault struct {
	name string
	put  func(a *attempt)
	e    api.Errno
}

// P10.3: every set of the errors together, in their order
func TestOrderOfErrorsOfWrite(t *testing.T) {
	faults := []fault{
		{"cartridge", func(a *attempt) { a.c.Loads = -1 }, api.ErrInvalid},
		{"block", func(a *attempt) { a.l = append(a.l, api.Block{}) }, api.ErrInvalid},
		{"bad block", func(a *attempt) { a.l = append(a.l, blocks("A")...) }, api.ErrInvalid},
		{"locked", func(a *attempt) { a.c.Locked = true }, api.ErrProtected},
		{"negative", func(a *attempt) { a.at = -1 }, api.ErrRange},
		{"behind", func(a *attempt) { a.at = 5 }, api.ErrRange},
		{"write-once", func(a *attempt) { a.c.WriteOnce, a.at = true, min(a.at, 3) }, api.ErrProtected},
		{"full", func(a *attempt) { a.l = append(a.l, blocks("vwxyzmvwx")...) }, api.ErrFull},
	}
	for set := range 1 << len(faults) {
		if set&(1<<4) != 0 && set&(1<<5) != 0 || set&(1<<5) != 0 && set&(1<<6) != 0 {
			continue // at is not both before and behind the end of data
		}
		a, want, names := attempt{holding(8, "amcd"), 4, blocks("xy")}, api.OK, []string{}
		for i, f := range faults {
			if set>>i&1 == 1 {
				f.put(&a)
				names = append(names, f.name)
				if want == api.OK {
					want = f.e
				}
			}
		}
		d, e := cartridge.Write(a.c, a.at, a.l)
		if e != want || (e == api.OK) == same(d, api.Cartridge{}) {
			t.Errorf("%s: %s, %d, want %d", strings.Join(names, ", "), name(d), e, want)
		}
	}
	for _, at := range []int{5, 6, 9} { // behind the end of data, write-once or not
		if _, e := cartridge.Write(once(8, "amcd"), at, blocks("x")); e != api.ErrRange {
			t.Errorf("write-once, at %d: %d", at, e)
		}
	}
}

// P10.3: great cartridges
func TestGreatWrites(t *testing.T) {
	var r random
	for _, g := range []api.Geometry{{Wraps: 32, Length: 128}, {Wraps: 1, Length: 4096}} {
		c := api.Cartridge{Barcode: "A", Geometry: g, Blocks: blocks(r.letters(4000, "amzMZ"))}
		for _, at := range []int{0, 1, 2000, 3999, 4000} {
			for _, n := range []int{0, 1, 95, 96, 97, 4096 - at - 1, 4096 - at, 4096 - at + 1, 5000} {
				checkWrite(t, c, at, blocks(r.letters(n, "amz")))
			}
		}
	}
}

// P10.3: the extreme ints
func TestExtremeWrites(t *testing.T) {
	for _, c := range []api.Cartridge{holding(6, ""), holding(6, "amb"), holding(6, "abcdef"), once(6, "amb"), locked(6, "amb")} {
		for _, at := range extremes() {
			for _, letters := range []string{"", "a", "abcdefg", "A"} {
				checkWrite(t, c, at, blocks(letters))
			}
		}
	}
}
