package volume_test

import (
	"testing"

	"tapearchive/api"
	"tapearchive/cartridge"
	"tapearchive/volume"
)

// P18.1 to P18.6: cartridges that are not valid by one condition alone
func TestInvalidCartridges(t *testing.T) {
	for _, x := range invalid() {
		if cartridge.Valid(x.c) {
			t.Errorf("%s: valid", x.name)
		}
		refuses(t, x.name, x.c, "p", 0, api.ErrInvalid)
		denies(t, x.name, x.c, few()[0].l, api.ErrInvalid)
		hides(t, x.name, x.c, api.ErrInvalid)
		for _, span := range [][2]int{{2, 2}, {0, 1}, {0, 0}, {-1, 1}, {99, 1}} {
			f := api.Found{Barcode: x.c.Barcode, Epoch: x.c.Epoch, First: span[0], Count: span[1]}
			keeps(t, x.name, x.c, f, api.ErrInvalid)
			owes(t, x.name, x.c, span[0], api.ErrInvalid)
		}
		empty := x.c
		empty.Blocks = nil
		if cartridge.Valid(empty) {
			continue // It was the blocks that were not valid.
		}
		refuses(t, x.name+" without blocks", empty, "p", 0, api.ErrInvalid)
		hides(t, x.name+" without blocks", empty, api.ErrInvalid)
		owes(t, x.name+" without blocks", empty, 0, api.ErrInvalid)
		keeps(t, x.name+" without blocks", empty, api.Found{Barcode: empty.Barcode, Epoch: empty.Epoch}, api.ErrInvalid)
	}
}

// P18.1 to P18.6: the volume that those cartridges differ from is valid.
func TestValidCartridge(t *testing.T) {
	c := sized(20, few()[1].marked())
	for _, g := range []api.Geometry{c.Geometry, {Wraps: 1, Length: 5}, {Wraps: 5, Length: 1}, {Wraps: 32, Length: 128, Step: 1000000, Turn: 1000000, Jump: 1000000, Stream: 1000000}, {Wraps: 1, Length: 4096}} {
		for _, n := range []int{0, 1, 1<<50 - 1, 1 << 50} {
			c.Geometry, c.Loads, c.Passes = g, n, 1<<50-n
			shows(t, "a valid cartridge", c, 0, few()[1].found(2))
			gives(t, "a valid cartridge", c, few()[1].found(2), few()[1])
		}
	}
	for _, flags := range [][2]bool{{true, false}, {false, true}, {true, true}} {
		c.WriteOnce, c.Locked = flags[0], flags[1]
		shows(t, "a protected cartridge", c, 0, few()[1].found(2))
		gives(t, "a protected cartridge", c, few()[1].found(2), few()[1])
	}
	if volume.Tail(api.Cartridge{}) != 0 {
		t.Error("the zero cartridge has a tail")
	}
}
