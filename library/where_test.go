package library_test

import (
	"testing"

	"tapearchive/api"
	"tapearchive/library"
)

// checkWhere checks Where of a cartridge; with e nil, that there is none.
func checkWhere(t *testing.T, l api.Library, barcode string, e *api.Element) {
	t.Helper()
	try(t, where(barcode), l)
	got, found := library.Where(l, barcode)
	if e == nil && (found || got != (api.Element{})) || e != nil && (!found || got != *e) {
		t.Errorf("%sWhere of %q: %+v %t", name(l), barcode, got, found)
	}
}

// P13.3: cartridges in each kind of element, and in drives of each state that holds one
func TestWhere(t *testing.T) {
	l := lib("A-B P H C-d!")
	for barcode, e := range map[string]api.Element{"A": slot(0), "B": slot(2), "P": port(), "H": hand(), "C": driveAt(0), "D": driveAt(2)} {
		checkWhere(t, l, barcode, &e)
		checkWhere(t, failed(l), barcode, &e)
	}
	for _, barcode := range []string{"", "X", "E", "a", "AA", "A ", "-", "\x00", "\xff", "AB", "Z9"} {
		checkWhere(t, l, barcode, nil)
		checkWhere(t, lib("--- - - --!"), barcode, nil)
		checkWhere(t, lib("- - - -"), barcode, nil)
	}
}

// P13.3: each slot and each drive of the greatest library
func TestWhereOfMost(t *testing.T) {
	l := crowd(64)
	for i, c := range l.Cartridges {
		e := slot(i - 10)
		switch {
		case i < 8:
			e = driveAt(i)
		case i == 8:
			e = port()
		case i == 9:
			e = hand()
		}
		checkWhere(t, l, c.Barcode, &e)
	}
	checkWhere(t, l, "TAPE064", nil)
	checkWhere(t, l, "", nil)
}

// P13.3: of libraries that are not valid, the zero element and false
func TestWhereInvalid(t *testing.T) {
	for _, put := range []func(l *api.Library){func(l *api.Library) { l.Robot.Port = "B" }, func(l *api.Library) { l.Drives[1].Loads = -1 }, func(l *api.Library) { l.Cartridges = nil }, func(l *api.Library) { *l = api.Library{} }} {
		l := lib("A-B P H C-d!")
		put(&l)
		for _, barcode := range []string{"A", "B", "P", "H", "C", "D", "X", ""} {
			checkWhere(t, l, barcode, nil)
		}
	}
}
