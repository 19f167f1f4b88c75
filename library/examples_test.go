package library_test

import (
	"testing"

	"tapearchive/api"
	"tapearchive/library"
)

// example returns the library of the chapter's examples.
func example(t *testing.T) api.Library {
	t.Helper()
	m := api.RobotModel{Slots: 4, Drives: 2, DriveAt: 6, PortAt: 10, Move: 2, Pick: 5, Put: 4}
	c := api.Cartridge{Barcode: "A", Geometry: api.Geometry{Wraps: 2, Length: 10, Step: 1, Turn: 5, Jump: 3, Stream: 2}}
	l, e := library.New(m, api.DriveModel{Load: 10, Unload: 20}, []api.Cartridge{c})
	if e != api.OK {
		t.Fatal(e)
	}
	return l
}

// The chapter's example 1
func TestFirstExample(t *testing.T) {
	l, time, e := library.Mount(example(t), "A", 1)
	if e != api.OK || time != 33 || l.Robot.At != 7 || l.Drives[1].Barcode != "A" || l.Drives[1].State != api.DriveReady {
		t.Fatalf("%s%d %d", name(l), time, e)
	}
	again, time, e := library.Mount(l, "A", 1)
	if e != api.OK || time != 0 || !same(again, l) {
		t.Errorf("%s%d %d", name(again), time, e)
	}
}

// The chapter's example 2
func TestSecondExample(t *testing.T) {
	l, _, _ := library.Mount(example(t), "A", 1)
	l, time, e := library.Dismount(l, 1)
	if e != api.OK || time != 20+0+5+14+4 || l.Robot.At != 0 || l.Robot.Slots[0] != "A" {
		t.Errorf("%s%d %d", name(l), time, e)
	}
}

// The chapter's example 3
func TestThirdExample(t *testing.T) {
	l, _, _ := library.Mount(example(t), "A", 1)
	l, first, _, e := library.Append(l, 1, blocks("abc"))
	if e != api.OK || first != 0 || l.Drives[1].Head != 3 {
		t.Fatalf("%s%d %d", name(l), first, e)
	}
	l, e = library.Break(l, api.Element{Kind: api.ElementDrive, Index: 1})
	if e != api.OK {
		t.Fatal(e)
	}
	if x, time, e := library.Mount(l, "A", 1); e != api.ErrFault || time != 0 || !same(x, api.Library{}) {
		t.Errorf("%s%d %d", name(x), time, e)
	}
	l, e = library.Service(l)
	if e != api.OK || l.Drives[1].Barcode != "A" || l.Drives[1].State != api.DriveReady || l.Drives[1].Head != 0 {
		t.Errorf("%s%d", name(l), e)
	}
}
