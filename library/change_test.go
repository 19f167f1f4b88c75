package library_test

import (
	"slices"
	"strings"
	"testing"

	"tapearchive/api"
	"tapearchive/library"
)

// barcodes returns those of the cartridges of a library, in their order.
func barcodes(l api.Library) string {
	var list []string
	for _, c := range l.Cartridges {
		list = append(list, c.Barcode)
	}
	return strings.Join(list, " ")
}

// P13.8: into the first empty slot, and in front of, between and behind the others
func TestInsert(t *testing.T) {
	for _, x := range []struct {
		text, letter, want string
		slot               int
	}{
		{"--- - - --", "B", "B", 0}, {"B-- - - --", "A", "A B", 1}, {"BD- - - --", "C", "B C D", 2}, {"-BC - - --", "D", "B C D", 0}, {"D-B P H Fg", "E", "B D E F G H P", 1}, {"BC- P - D!", "Z", "B C D P Z", 2},
	} {
		for _, l := range []api.Library{lib(x.text), failed(lib(x.text))} {
			got := succeed(t, insert(tape(x.letter)), l)
			if barcodes(got.l) != x.want || got.l.Robot.Slots[x.slot] != x.letter || got.l.Robot.At != 1 || !slices.Equal(got.l.Drives, l.Drives) {
				t.Errorf("%+v: %s", x, got)
			}
			at, _ := find(got.l.Cartridges, x.letter)
			if !sameTape(got.l.Cartridges[at], tape(x.letter)) {
				t.Errorf("%+v: %s", x, got)
			}
		}
	}
}

// P13.8: a cartridge that is not valid
func TestInsertInvalid(t *testing.T) {
	for _, f := range tapeFaults() {
		c := tape("X")
		f.put(&c)
		expect(t, insert(c), lib("A-- - - --"), api.ErrInvalid)
		expect(t, insert(c), lib("ABC - - --"), api.ErrInvalid)
		c = tape("A")
		f.put(&c)
		expect(t, insert(c), lib("A-- - - --"), api.ErrInvalid)
	}
	expect(t, insert(api.Cartridge{}), lib("--- - - --"), api.ErrInvalid)
}

// P13.8: the least and the greatest ints in each number of a cartridge
func TestInsertExtremes(t *testing.T) {
	for _, n := range extremes() {
		for i := range 9 {
			c := tape("X")
			g := &c.Geometry
			*[]*int{&c.Epoch, &c.Loads, &c.Passes, &g.Wraps, &g.Length, &g.Step, &g.Turn, &g.Jump, &g.Stream}[i] = n
			// Counters are limited by MaxNumber, which is greater than some of these.
			if i < 3 && n >= 0 && n <= 1<<50 {
				succeed(t, insert(c), lib("A-- - - --"))
			} else {
				expect(t, insert(c), lib("A-- - - --"), api.ErrInvalid)
			}
		}
	}
}

// P13.8: a cartridge that is there already, in each kind of element
func TestInsertExists(t *testing.T) {
	for _, text := range []string{"A-- - - --", "--A - - --", "--- A - --", "--- - A --", "--- - - A-", "--- - - -a", "BCA - - --", "BCD - - -A"} {
		expect(t, insert(tape("A")), lib(text), api.ErrExists)
		other := tape("X")
		other.Barcode = "A"
		expect(t, insert(other), failed(lib(text)), api.ErrExists)
	}
}

// P13.8: no empty slot, and MaxVolumes cartridges, also if there are empty slots
func TestInsertFull(t *testing.T) {
	for _, text := range []string{"ABC - - --", "ABC D E FG"} {
		expect(t, insert(tape("X")), lib(text), api.ErrFull)
	}
	for _, n := range []int{62, 63, 64} {
		// All but ten of them are in slots: of these, there are enough.
		l := crowd(n)
		if n == 64 {
			expect(t, insert(tape("X")), l, api.ErrFull)
			continue
		}
		if got := succeed(t, insert(tape("X")), l); len(got.l.Cartridges) != n+1 || got.l.Robot.Slots[n-10] != "X" {
			t.Error(got)
		}
	}
	full, _ := library.New(robotModel(64, 1), driveModel(), many(64))
	expect(t, insert(tape("X")), full, api.ErrFull)
	expect(t, insert(many(64)[63]), full, api.ErrExists)
	almost, _ := library.New(robotModel(64, 1), driveModel(), many(63))
	succeed(t, insert(tape("X")), almost)
}

// P13.8: every set of the errors of Insert together
func TestOrderOfErrorsOfInsert(t *testing.T) {
	for set := range 8 {
		l, c, want := lib("B-- - - --"), tape("A"), api.OK
		if set&1 > 0 {
			c.Passes, want = -1, api.ErrInvalid
		}
		if set&2 > 0 {
			l = lib("A-- - - --")
			want = first(check{want != api.OK, want}, check{true, api.ErrExists})
		}
		if set&4 > 0 {
			l.Robot.Slots, l.Model.Slots = l.Robot.Slots[:1], 1
			want = first(check{want != api.OK, want}, check{true, api.ErrFull})
		}
		if got := try(t, insert(c), l); got.e != want {
			t.Errorf("set %d: %s, want the error %d", set, got, want)
		}
	}
}

// P13.9: out of each kind of element, and out of a drive of each state: the element is empty afterwards.
func TestRemove(t *testing.T) {
	l := lib("A-B P H C-d!")
	for _, x := range []struct {
		barcode string
		e       api.Element
		want    string
	}{
		{"A", slot(0), "B C D H P"}, {"B", slot(2), "A C D H P"}, {"P", port(), "A B C D H"}, {"H", hand(), "A B C D P"}, {"C", driveAt(0), "A B D H P"}, {"D", driveAt(2), "A B C H P"},
	} {
		for _, l := range []api.Library{l, failed(l)} {
			got := succeed(t, remove(x.barcode), l)
			if barcodes(got.l) != x.want || *in(&got.l, x.e) != "" || !sameTape(got.c, tape(x.barcode)) {
				t.Errorf("%s: %s", x.barcode, got)
			}
			for _, e := range elements(l) {
				if e != x.e && *in(&got.l, e) != *in(&l, e) {
					t.Errorf("%s: %s", x.barcode, got)
				}
			}
		}
	}
	ready := succeed(t, remove("C"), l).l.Drives[0]
	if ready != (api.Drive{Loads: 5, Passes: 60000, Since: 8000}) {
		t.Errorf("%+v", ready)
	}
	broken := succeed(t, remove("D"), l).l.Drives[2]
	if broken != (api.Drive{State: api.DriveFailed, Loads: 7, Passes: 60002, Since: 9000}) {
		t.Errorf("%+v", broken)
	}
}

// P13.9: the last cartridge, and one after another in any order
func TestRemoveAll(t *testing.T) {
	for _, order := range []string{"ABCDHP", "PHDCBA", "CAPDBH"} {
		l := lib("A-B P H C-d!")
		for _, letter := range strings.Split(order, "") {
			l = succeed(t, remove(letter), l).l
			expect(t, remove(letter), l, api.ErrNotFound)
		}
		if len(l.Cartridges) != 0 || l.Drives[2].State != api.DriveFailed || l.Drives[0].State != api.DriveEmpty {
			t.Error(name(l))
		}
	}
}

// P13.9: cartridges that are not in the library
func TestRemoveNotFound(t *testing.T) {
	for _, text := range []string{"A-B P H C-d!", "--- - - --", "- - - -"} {
		for _, barcode := range []string{"", "X", "a", "AA", "-", "\xff", "E"} {
			expect(t, remove(barcode), lib(text), api.ErrNotFound)
		}
	}
}

// P13.8, P13.9: what has been removed can be inserted again: it is in the first empty slot.
func TestRemoveAndInsert(t *testing.T) {
	for _, letter := range []string{"A", "B", "C", "D", "H", "P"} {
		got := succeed(t, remove(letter), lib("-BA P H C-d!"))
		back := succeed(t, insert(got.c), got.l)
		if back.l.Robot.Slots[0] != letter || barcodes(back.l) != "A B C D H P" {
			t.Error(back)
		}
	}
}
