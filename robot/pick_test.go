package robot_test

import (
	"testing"

	"tapearchive/api"
)

// P12.4: Pick from a slot, the port, a drive and the hand, empty and full, with a barcode that is empty, in a slot, in the port, and in neither
func TestPick(t *testing.T) {
	for _, x := range []struct {
		text    string
		e       api.Element
		barcode string
		want    string
		n       int
		errno   api.Errno
	}{
		{"A-B- P -", slot(0), "", "--B- P A", 2*5 + 5, api.OK},
		{"A-B- P -", slot(0), "B", "--B- P A", 2*5 + 5, api.OK}, // the barcode plays no part
		{"A-B- P -", slot(0), "P", "--B- P A", 2*5 + 5, api.OK},
		{"A-B- P -", slot(0), "X", "--B- P A", 2*5 + 5, api.OK},
		{"A-B- P -", slot(2), "A", "A--- P B", 2*3 + 5, api.OK},
		{"---D P -", slot(3), "", "---- P D", 2*2 + 5, api.OK},
		{"A-B- P -", slot(1), "", "", 0, api.ErrNotFound},
		{"A-B- P -", slot(1), "X", "", 0, api.ErrNotFound},
		{"A-B- P -", slot(3), "A", "", 0, api.ErrNotFound},
		{"A-B- P -", port(), "", "A-B- - P", 2*5 + 5, api.OK},
		{"A-B- P -", port(), "A", "A-B- - P", 2*5 + 5, api.OK},
		{"A-B- P -", port(), "P", "A-B- - P", 2*5 + 5, api.OK},
		{"---- P -", port(), "X", "---- - P", 2*5 + 5, api.OK},
		{"A-B- - -", port(), "", "", 0, api.ErrNotFound},
		{"A-B- - -", port(), "A", "", 0, api.ErrNotFound},
		{"A-B- - -", port(), "X", "", 0, api.ErrNotFound},
		{"A-B- P -", drive(0), "X", "A-B- P X", 2*1 + 5, api.OK},
		{"A-B- P -", drive(1), "X", "A-B- P X", 2*2 + 5, api.OK},
		{"---- - -", drive(1), "P", "---- - P", 2*2 + 5, api.OK},
		{"ABCD P -", drive(0), "X", "ABCD P X", 2*1 + 5, api.OK},
		{"A-B- P -", drive(0), "", "", 0, api.ErrInvalid},
		{"A-B- P -", drive(0), "A", "", 0, api.ErrInvalid},
		{"A-B- P -", drive(0), "B", "", 0, api.ErrInvalid},
		{"---D P -", drive(1), "D", "", 0, api.ErrInvalid},
		{"A-B- P -", drive(0), "P", "", 0, api.ErrInvalid},
		{"---- P -", drive(1), "P", "", 0, api.ErrInvalid},
		{"---- - -", drive(1), "", "", 0, api.ErrInvalid},
		{"A-B- P -", hand(), "", "", 0, api.ErrNotFound},
		{"A-B- P -", hand(), "X", "", 0, api.ErrNotFound},
		{"A-B- P H", hand(), "H", "", 0, api.ErrNotFound},
		{"A-B- P H", slot(0), "", "", 0, api.ErrBusy},
		{"A-B- P H", slot(1), "", "", 0, api.ErrBusy},
		{"A-B- P H", port(), "", "", 0, api.ErrBusy},
		{"A-B- - H", port(), "", "", 0, api.ErrBusy},
		{"A-B- P H", drive(0), "X", "", 0, api.ErrBusy},
		{"A-B- P H", drive(0), "H", "", 0, api.ErrBusy},
		{"A-B- P H", drive(0), "", "", 0, api.ErrBusy},
		{"A-B- P H", drive(0), "A", "", 0, api.ErrBusy},
	} {
		want := result{n: x.n, e: x.errno}
		if x.errno == api.OK {
			want.r = at(positions(chapter())[x.e], x.want)
		}
		o := pick(x.e, x.barcode)
		if got := try(t, o, chapter(), at(5, x.text)); !got.equal(want) {
			t.Errorf("%s: %s: %s, want %s", x.text, o.name, got, want)
		}
		if got := try(t, o, chapter(), failed(at(5, x.text))); !got.equal(result{e: api.ErrFault}) {
			t.Errorf("%s, out of order: %s: %s", x.text, o.name, got)
		}
	}
}

// P12.4, P12.5: elements that are none: ErrNotFound, whatever the hand contains
func TestNoElements(t *testing.T) {
	for _, m := range models() {
		for _, position := range []int{0, rail(m)} {
			for _, others := range []string{" - -", " P -", " - H", " P H"} {
				r := at(position, slots(m.Slots)[0]+others)
				for _, e := range elements(m) {
					if _, exists := positions(m)[e]; exists {
						continue
					}
					for _, barcode := range []string{"", "A", "P", "H", "X"} {
						expect(t, pick(e, barcode), m, r, api.ErrNotFound)
						expect(t, pick(e, barcode), m, failed(r), api.ErrFault)
					}
					expect(t, put(e), m, r, api.ErrNotFound)
					expect(t, put(e), m, failed(r), api.ErrFault)
				}
			}
		}
	}
}

// P12.4: Pick of all models, robots and elements
func TestPickOfAll(t *testing.T) {
	for _, m := range models() {
		picked := 0
		for _, r := range robots(m) {
			for _, e := range elements(m) {
				for _, barcode := range []string{"", "A", "P", "H", "X"} {
					if got := try(t, pick(e, barcode), m, r); got.e == api.OK {
						picked++
					}
				}
			}
		}
		if picked < 10 {
			t.Errorf("%+v: only %d were picked", m, picked)
		}
	}
}

// P12.4, P12.5: the time from each position to each element, for models whose times are all different
func TestTimes(t *testing.T) {
	m := models()[3]
	for from := range rail(m) + 1 {
		for e, to := range positions(m) {
			want := 100*max(from-to, to-from) + 10
			if got := try(t, pick(e, "X"), m, at(from, "ABCDEF P -")); got.n != want || got.r.At != to || got.e != api.OK {
				t.Errorf("from %d to %+v at %d: %s, want the time %d", from, e, to, got, want)
			}
			if got := try(t, put(e), m, at(from, "------ - H")); got.n != want-10+1 || got.r.At != to || got.e != api.OK {
				t.Errorf("from %d to %+v at %d: %s, want the time %d", from, e, to, got, want-9)
			}
		}
	}
}

// P12.4, P12.5: barcodes of any bytes, which are no others even if they begin with them
func TestPickAndPutOfStrangeBarcodes(t *testing.T) {
	l := []string{"A", "a", "AA", "\x00", "\x00\x00", "\xff", " ", "A ", "é", "-"}
	for _, a := range l {
		for _, b := range l {
			r := api.Robot{Slots: []string{"", a, "", ""}}
			want := api.OK
			if a == b {
				want = api.ErrInvalid
			}
			if got := try(t, pick(drive(0), b), chapter(), r); got.e != want || want == api.OK && got.r.Hand != b {
				t.Errorf("%q of a drive, and %q: %s", b, a, got)
			}
			r = api.Robot{Slots: make([]string, 4), Port: a}
			if got := try(t, pick(drive(0), b), chapter(), r); got.e != want || want == api.OK && got.r.Hand != b {
				t.Errorf("%q of a drive, and %q in the port: %s", b, a, got)
			}
			if got := try(t, pick(port(), b), chapter(), r); got.e != api.OK || got.r.Hand != a || got.r.Port != "" {
				t.Errorf("%q of the port: %s", a, got)
			}
		}
		r := api.Robot{Slots: make([]string, 4), Hand: a}
		if got := try(t, put(slot(2)), chapter(), r); got.e != api.OK || got.r.Hand != "" || got.r.Slots[2] != a {
			t.Errorf("%q into a slot: %s", a, got)
		}
	}
}
