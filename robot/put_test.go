package robot_test

import (
	"testing"

	"tapearchive/api"
)

// P12.5: Put into a slot, the port, a drive and the hand, empty and full, with the hand empty and full
func TestPut(t *testing.T) {
	for _, x := range []struct {
		text  string
		e     api.Element
		want  string
		n     int
		errno api.Errno
	}{
		{"A-B- P H", slot(1), "AHB- P -", 2*4 + 4, api.OK},
		{"A-B- P H", slot(3), "A-BH P -", 2*2 + 4, api.OK},
		{"---- - H", slot(0), "H--- - -", 2*5 + 4, api.OK},
		{"-BCD E H", slot(0), "HBCD E -", 2*5 + 4, api.OK},
		{"A-B- P H", slot(0), "", 0, api.ErrFull},
		{"A-B- P H", slot(2), "", 0, api.ErrFull},
		{"---D - H", slot(3), "", 0, api.ErrFull},
		{"A-B- - H", port(), "A-B- H -", 2*5 + 4, api.OK},
		{"ABCD - H", port(), "ABCD H -", 2*5 + 4, api.OK},
		{"A-B- P H", port(), "", 0, api.ErrFull},
		{"---- P H", port(), "", 0, api.ErrFull},
		{"A-B- P H", drive(0), "A-B- P -", 2*1 + 4, api.OK},
		{"A-B- P H", drive(1), "A-B- P -", 2*2 + 4, api.OK},
		{"ABCD P H", drive(1), "ABCD P -", 2*2 + 4, api.OK},
		{"---- - H", drive(0), "---- - -", 2*1 + 4, api.OK},
		{"A-B- P -", slot(1), "", 0, api.ErrNotFound},
		{"A-B- P -", slot(0), "", 0, api.ErrNotFound},
		{"A-B- - -", port(), "", 0, api.ErrNotFound},
		{"A-B- P -", port(), "", 0, api.ErrNotFound},
		{"A-B- P -", drive(0), "", 0, api.ErrNotFound},
		{"---- - -", drive(1), "", 0, api.ErrNotFound},
		{"A-B- P H", hand(), "", 0, api.ErrNotFound},
		{"A-B- P -", hand(), "", 0, api.ErrNotFound},
	} {
		want := result{n: x.n, e: x.errno}
		if x.errno == api.OK {
			want.r = at(positions(chapter())[x.e], x.want)
		}
		o := put(x.e)
		if got := try(t, o, chapter(), at(5, x.text)); !got.equal(want) {
			t.Errorf("%s: %s: %s, want %s", x.text, o.name, got, want)
		}
		if got := try(t, o, chapter(), failed(at(5, x.text))); !got.equal(result{e: api.ErrFault}) {
			t.Errorf("%s, out of order: %s: %s", x.text, o.name, got)
		}
	}
}

// P12.5: Put of all models, robots and elements
func TestPutOfAll(t *testing.T) {
	for _, m := range models() {
		given := 0
		for _, r := range robots(m) {
			for _, e := range elements(m) {
				if got := try(t, put(e), m, r); got.e == api.OK {
					given++
				}
			}
		}
		if given < 10 {
			t.Errorf("%+v: only %d were put", m, given)
		}
	}
}
