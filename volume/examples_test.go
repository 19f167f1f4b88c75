package volume_test

import (
	"testing"

	"tapearchive/api"
	"tapearchive/cartridge"
	"tapearchive/volume"
)

// formatted returns the volume of the chapter's examples, with the label of chapter 14's example 3.
func formatted(t *testing.T) api.Cartridge {
	t.Helper()
	c, e := cartridge.New("A1", geometry(20), false)
	if e != api.OK {
		t.Fatal(e)
	}
	c.Epoch = 1
	c, e = volume.Format(c, "p", 0)
	if e != api.OK {
		t.Fatal(e)
	}
	return c
}

// chapter, example 1
func TestExampleAppend(t *testing.T) {
	c := formatted(t)
	if len(c.Blocks) != 2 {
		t.Errorf("the label has %d blocks", len(c.Blocks))
	}
	if l, e := volume.Label(c); e != api.OK || l != (api.Label{Barcode: "A1", Pool: "p", Epoch: 1}) {
		t.Errorf("%+v, error %d", l, e)
	}
	first, second := commit(1, 1, 3), commit(2, 1, 64)
	if len(first.l) != 2 || len(second.l) != 2 {
		t.Fatalf("%s, %s", first, second)
	}
	c, at, e := volume.Append(c, first.l)
	if e != api.OK || at != 2 {
		t.Errorf("the first container begins at %d, error %d", at, e)
	}
	c, at, e = volume.Append(c, second.l)
	if e != api.OK || at != 5 || len(c.Blocks) != 8 {
		t.Errorf("the second container begins at %d, error %d", at, e)
	}
	if _, list, e := volume.Scan(c); e != api.OK || len(list) != 2 || list[0].First != 2 || list[0].Count != 2 || list[1].First != 5 || list[1].Count != 2 {
		t.Errorf("%+v, error %d", list, e)
	}
}

// chapter, example 2
func TestExampleTorn(t *testing.T) {
	c := formatted(t)
	c, e := cartridge.Write(c, 2, commit(1, 1, 3).l[:1])
	if e != api.OK || volume.Tail(c) != 1 {
		t.Errorf("Tail: %d, error %d", volume.Tail(c), e)
	}
	if _, _, e := volume.Append(c, commit(1, 1, 3).l); e != api.ErrState {
		t.Errorf("Append: error %d", e)
	}
	c, _ = cartridge.Write(c, 3, []api.Block{{Mark: true}})
	c, at, e := volume.Append(c, commit(1, 1, 3).l)
	if e != api.OK || at != 4 {
		t.Errorf("the container begins at %d, error %d", at, e)
	}
	if _, list, e := volume.Scan(c); e != api.OK || len(list) != 1 || list[0].First != 4 || volume.Tail(c) != 0 {
		t.Errorf("%+v, error %d", list, e)
	}
}

// chapter, example 3
func TestExampleStale(t *testing.T) {
	c := formatted(t)
	c.Epoch = 2
	if l, e := volume.Label(c); e != api.ErrStale || l != (api.Label{}) {
		t.Errorf("%+v, error %d", l, e)
	}
	c.Epoch = 1
	if _, e := volume.Label(c); e != api.OK {
		t.Errorf("error %d", e)
	}
}
