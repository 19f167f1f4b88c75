package robot_test

import (
	"math"
	"strings"
	"testing"

	"tapearchive/api"
	"tapearchive/robot"
)

// checkFind checks Find of a barcode; nowhere is an element that is none.
func checkFind(t *testing.T, r api.Robot, barcode string, want api.Element) {
	t.Helper()
	before := cloned(r)
	found := want != nowhere()
	if !found {
		want = api.Element{}
	}
	if got, ok := robot.Find(r, barcode); got != want || ok != found {
		t.Errorf("%s: %q is in %+v %t, want %+v %t", name(r), barcode, got, ok, want, found)
	}
	if !same(r, before) {
		t.Errorf("%s: Find of %q has changed it to %s", name(before), barcode, name(r))
	}
}

// nowhere stands for no element.
func nowhere() api.Element { return api.Element{Kind: -1} }

// P12.6: Find of a barcode in a slot, the port, the hand, none of them, and several of them, and of ""
func TestFind(t *testing.T) {
	for _, x := range []struct {
		text, barcode string
		want          api.Element
	}{
		{"A-B- P H", "A", slot(0)}, {"A-B- P H", "B", slot(2)}, {"---D P H", "D", slot(3)},
		{"A-B- P H", "P", port()}, {"---- P -", "P", port()}, {" P H", "P", port()},
		{"A-B- P H", "H", hand()}, {"---- - H", "H", hand()}, {" - H", "H", hand()},
		{"A-B- P H", "X", nowhere()}, {"---- - -", "X", nowhere()}, {" - -", "A", nowhere()}, {"A-B- P H", "AB", nowhere()}, {"A-B- P H", "a", nowhere()}, {"A-B- P H", "-", nowhere()},
		{"A-B- P H", "", nowhere()}, {"A-B- - -", "", nowhere()}, {"---- - -", "", nowhere()}, {"ABCD - H", "", nowhere()}, {"ABCD P -", "", nowhere()}, {" - -", "", nowhere()}, {"ABCD P H", "", nowhere()},
		{"AAAA A A", "A", slot(0)}, {"-AAA A A", "A", slot(1)}, {"---A A A", "A", slot(3)}, {"B--A A A", "A", slot(3)}, {"BBBB A A", "A", port()}, {" A A", "A", port()}, {"---- A A", "A", port()}, {"---A - A", "A", slot(3)},
	} {
		for _, position := range []int{0, 3, -1, 2000, math.MinInt, math.MaxInt} {
			checkFind(t, at(position, x.text), x.barcode, x.want)
			checkFind(t, failed(at(position, x.text)), x.barcode, x.want)
		}
	}
}

// P12.6: Find in robots that fit no model, and of barcodes of any bytes
func TestFindInAllRobots(t *testing.T) {
	r := api.Robot{Slots: make([]string, 1000)}
	r.Slots[999], r.Slots[64], r.Slots[998] = "A", "B", "A"
	checkFind(t, r, "A", slot(998))
	checkFind(t, r, "B", slot(64))
	checkFind(t, r, "C", nowhere())
	checkFind(t, r, "", nowhere())
	checkFind(t, api.Robot{}, "", nowhere())
	checkFind(t, api.Robot{}, "A", nowhere())
	long := strings.Repeat("A", 100000)
	l := []string{"A", "a", "AA", " ", "\x00", "\x00\x00", "\xff", "A ", " A", "\n", "é", long, long + "A", long[1:] + "B"}
	for i, barcode := range l {
		checkFind(t, api.Robot{Slots: l}, barcode, slot(i))
		checkFind(t, api.Robot{Slots: []string{"X"}, Port: barcode}, barcode, port())
		checkFind(t, api.Robot{Slots: []string{}, Hand: barcode}, barcode, hand())
		for k, other := range l {
			if i != k {
				checkFind(t, api.Robot{Slots: []string{"", other}, Port: other, Hand: other}, barcode, nowhere())
			}
		}
	}
	for _, m := range models() {
		for _, r := range robots(m) {
			for i, barcode := range r.Slots {
				if barcode != "" {
					checkFind(t, r, barcode, slot(i))
				}
			}
		}
	}
}

// checkEmpty checks Empty; -1 stands for none.
func checkEmpty(t *testing.T, r api.Robot, want int) {
	t.Helper()
	before := cloned(r)
	if got, ok := robot.Empty(r); got != max(want, 0) || ok != (want >= 0) {
		t.Errorf("%s: slot %d %t is empty, want %d", name(r), got, ok, want)
	}
	if !same(r, before) {
		t.Errorf("%s: Empty has changed it to %s", name(before), name(r))
	}
}

// P12.6: Empty of a robot without slots, full, and with the first and the last slot alone empty
func TestEmpty(t *testing.T) {
	for _, others := range []string{" - -", " P -", " - H", " P H", " A A"} {
		for _, x := range []struct {
			slots string
			want  int
		}{
			{"", -1}, {"A", -1}, {"ABCD", -1}, {"AAAA", -1}, {"-", 0}, {"-BCD", 0}, {"ABC-", 3}, {"A-C-", 1}, {"AB-D", 2}, {"----", 0}, {"---D", 0},
			{strings.Repeat("A", 64), -1}, {strings.Repeat("A", 63) + "-", 63}, {"-" + strings.Repeat("A", 63), 0}, {strings.Repeat("A", 1000) + "--", 1000}, {strings.Repeat("A", 1000), -1},
		} {
			for _, position := range []int{0, 3, -1, 2000, math.MinInt, math.MaxInt} {
				checkEmpty(t, at(position, x.slots+others), x.want)
				checkEmpty(t, failed(at(position, x.slots+others)), x.want)
			}
		}
	}
	checkEmpty(t, api.Robot{Slots: []string{"-", " ", "\x00", "\n"}}, -1)
	checkEmpty(t, api.Robot{Slots: []string{"\x00", ""}}, 1)
	checkEmpty(t, api.Robot{}, -1)
	checkEmpty(t, api.Robot{Slots: []string{}}, -1)
}

// P12.6: what is picked is found in the hand and its slot is empty, and what is put is found there.
func TestFindAndEmptyAfterwards(t *testing.T) {
	r := at(0, "ABCD P -")
	taken := try(t, pick(slot(2), ""), chapter(), r)
	checkFind(t, taken.r, "C", hand())
	checkEmpty(t, taken.r, 2)
	given := try(t, put(slot(2)), chapter(), taken.r)
	checkFind(t, given.r, "C", slot(2))
	checkEmpty(t, given.r, -1)
	gone := try(t, put(drive(1)), chapter(), taken.r)
	checkFind(t, gone.r, "C", nowhere())
	taken = try(t, pick(port(), ""), chapter(), gone.r)
	checkFind(t, taken.r, "P", hand())
	given = try(t, put(slot(2)), chapter(), taken.r)
	checkFind(t, given.r, "P", slot(2))
	taken = try(t, pick(drive(1), "C"), chapter(), given.r)
	checkFind(t, taken.r, "C", hand())
	given = try(t, put(port()), chapter(), taken.r)
	checkFind(t, given.r, "C", port())
	checkEmpty(t, given.r, -1)
}
