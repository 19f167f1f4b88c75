package drive_test

import (
	"testing"

	"tapearchive/api"
	"tapearchive/drive"
)

// The chapter's example 1
func TestFirstExample(t *testing.T) {
	m := api.DriveModel{Load: 40, Unload: 30, Clean: 20}
	c := api.Cartridge{Barcode: "A", Geometry: chapter(), Blocks: blocks("abcdefghijkl")}
	d, c, time, e := drive.Load(m, api.Drive{}, c)
	if e != api.OK || time != 40 || d != (api.Drive{State: api.DriveReady, Barcode: "A", Loads: 1}) || c.Loads != 1 || c.Passes != 0 {
		t.Fatalf("Load: %+v, %s, %d, %d", d, name(c), time, e)
	}
	d, c, time, e = drive.Seek(m, d, c, 9)
	if e != api.OK || time != 9 || d.Head != 9 || d.Passes != 900 || d.Since != 900 || c.Passes != 900 {
		t.Errorf("Seek: %+v, %s, %d, %d", d, name(c), time, e)
	}
	d, c, l, time, e := drive.Read(m, d, c, 2)
	if e != api.OK || time != 12 || text(l) != "jk" || d.Head != 11 || d.Passes != 1000 || d.Since != 1000 || c.Passes != 1000 {
		t.Errorf("Read: %+v, %s, %s, %d, %d", d, name(c), text(l), time, e)
	}
	d, c, time, e = drive.Unload(m, d, c)
	if e != api.OK || time != 16+30 || d != (api.Drive{Loads: 1, Passes: 1800, Since: 1800}) || c.Passes != 1800 || text(c.Blocks) != "abcdefghijkl" {
		t.Errorf("Unload: %+v, %s, %d, %d", d, name(c), time, e)
	}
}

// The chapter's example 2
func TestSecondExample(t *testing.T) {
	c := api.Cartridge{Barcode: "A", Geometry: chapter(), Blocks: blocks("aBc")}
	d, c, _, e := drive.Load(api.DriveModel{}, api.Drive{}, c)
	if e != api.OK {
		t.Fatal(e)
	}
	d, c, l, time, e := drive.Read(api.DriveModel{}, d, c, 3)
	if e != api.ErrMedia || text(l) != "a" || d.Head != 1 || time != 2 || d.Passes != 100 || c.Passes != 100 || text(c.Blocks) != "aBc" {
		t.Errorf("%+v, %s, %s, %d, %d", d, name(c), text(l), time, e)
	}
	d, c, l, time, e = drive.Read(api.DriveModel{}, d, c, 2)
	if e != api.ErrMedia || len(l) > 0 || d.Head != 1 || time != 0 || d.Passes != 100 || c.Passes != 100 {
		t.Errorf("in front of the bad block: %+v, %s, %s, %d, %d", d, name(c), text(l), time, e)
	}
}

// The chapter's example 3
func TestThirdExample(t *testing.T) {
	m := api.DriveModel{Clean: 20, CleanEvery: 1000}
	d, c := api.Drive{Since: 1000}, holding(chapter(), "am")
	if !drive.Due(m, d) {
		t.Error("the drive is not due")
	}
	expect(t, load(), m, d, c, api.ErrState)
	d, time, e := drive.Clean(m, d)
	if d != (api.Drive{}) || time != 20 || e != api.OK || drive.Due(m, d) {
		t.Errorf("%+v, %d, %d", d, time, e)
	}
	if _, _, _, e := drive.Load(m, d, c); e != api.OK {
		t.Error(e)
	}
}
