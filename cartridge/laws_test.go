package cartridge_test

import (
	"testing"

	"tapearchive/api"
	"tapearchive/cartridge"
)

// contents returns all blocks of a cartridge, as Read returns them.
func contents(t *testing.T, c api.Cartridge) string {
	t.Helper()
	l, e := cartridge.Read(c, api.Span{From: 0, Count: len(c.Blocks)})
	if e != api.OK {
		t.Fatalf("%s: Read returns %d", name(c), e)
	}
	return text(l)
}

// P10.9: what was appended is read again, and what was there before as well; Free decreases accordingly.
func TestAppending(t *testing.T) {
	var r random
	for _, writeOnce := range []bool{false, true} {
		c, e := cartridge.New("TAPE2", api.Geometry{Wraps: 4, Length: 50}, writeOnce)
		if e != api.OK {
			t.Fatal(e)
		}
		all := ""
		for cartridge.Free(c) > 0 {
			part := r.letters(r.below(min(9, cartridge.Free(c)+1)), "amzk")
			before := c
			c, e = cartridge.Write(c, len(all), blocks(part))
			if e != api.OK || contents(t, before) != all {
				t.Fatalf("%s behind %s: %d, before it %s", part, all, e, text(before.Blocks))
			}
			if l, e := cartridge.Read(c, api.Span{From: len(all), Count: len(part)}); text(l) != part || e != api.OK {
				t.Errorf("%s behind %s: read again %s, %d", part, all, text(l), e)
			}
			all += part
			if contents(t, c) != all || cartridge.Free(c) != 200-len(all) || !sameButBlocks(c, before) {
				t.Errorf("%s is %s", all, name(c))
			}
		}
		if _, e := cartridge.Write(c, 200, blocks("a")); e != api.ErrFull || len(all) != 200 {
			t.Errorf("%d blocks, and another one: %d", len(all), e)
		}
	}
}

// P10.9: the Epoch and all other fields, in any sequence of operations
func TestSequences(t *testing.T) {
	var r random
	for range 300 {
		c := holding(8, r.letters(r.below(9), "amzMK"))
		c.WriteOnce, c.Locked = r.below(4) == 0, r.below(8) == 0
		for range 30 {
			next, want, e, wantError := c, c, api.OK, api.OK
			switch r.below(4) {
			case 0, 1:
				at, l := r.below(10)-1, blocks(r.letters(r.below(5), "amzamzamzK"))
				next, e = cartridge.Write(c, at, l)
				want, wantError = written(c, at, l)
			case 2:
				s := api.Span{From: r.below(12) - 2, Count: r.below(5) - 1}
				next, want = cartridge.Damage(c, s), damaged(c, s)
			case 3:
				if r.below(3) == 0 {
					next, e = cartridge.Erase(c)
					want, wantError = erased(c)
				}
			}
			if e != wantError || !same(next, want) {
				t.Fatalf("%s has become %s, %d, not %s, %d", name(c), name(next), e, name(want), wantError)
			}
			if e == api.OK {
				c = next
			}
		}
	}
}

// P10.9: on a write-once cartridge, writing removes and changes no block, and erasing fails.
func TestWriteOnce(t *testing.T) {
	var r random
	for range 200 {
		c, _ := cartridge.New("TAPE3", geometry(30), true)
		all := ""
		for range 40 {
			at, part := r.below(len(all)+3)-1, r.letters(r.below(5), "amzK")
			if r.below(2) == 0 {
				at = len(all)
			}
			next, e := cartridge.Write(c, at, blocks(part))
			if e != api.OK {
				continue
			}
			if at != len(all) || text(next.Blocks) != all+part {
				t.Fatalf("%s at %d of %s: %s", part, at, all, text(next.Blocks))
			}
			c, all = next, all+part
		}
		if _, e := cartridge.Erase(c); e != api.ErrProtected || len(all) == 0 || contents(t, c) != all || c.Epoch != 0 {
			t.Errorf("%s: erased with %d, or changed to %s", all, e, name(c))
		}
	}
}
