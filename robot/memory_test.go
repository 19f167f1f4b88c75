package robot_test

import (
	"slices"
	"testing"

	"tapearchive/api"
	"tapearchive/robot"
)

// roomy returns a robot that has room behind its slots.
func roomy(position int, text string) api.Robot {
	r := at(position, text)
	r.Slots = append(r.Slots, "behind", "them", "")[:len(r.Slots)]
	return r
}

// whole returns a robot with all that is in the memory of its slots, in new memory.
func whole(r api.Robot) api.Robot {
	r.Slots = slices.Clone(r.Slots[:cap(r.Slots)])
	return r
}

// spoil changes all that is in the memory of a robot's slots.
func spoil(r api.Robot) {
	for i := range r.Slots[:cap(r.Slots)] {
		r.Slots[:cap(r.Slots)][i] = "spoilt"
	}
}

// checkMemory checks that a call does not change the robot, also behind the end of its slots, and that its results are new memory.
func checkMemory(t *testing.T, o operation, position int, text string) {
	t.Helper()
	r := roomy(position, text)
	before, want := whole(r), o.want(chapter(), at(position, text))
	got, again := o.do(chapter(), r), o.do(chapter(), r)
	if !same(whole(r), before) {
		t.Errorf("%s: %s has changed it to %s", name(before), o.name, name(whole(r)))
	}
	if spoil(again.r); !got.equal(want) {
		t.Errorf("%s: %s: two results share memory: %s, want %s", name(before), o.name, got, want)
	}
	if !same(whole(r), before) {
		t.Errorf("%s: %s: the result shares memory with the argument", name(before), o.name)
	}
	if spoil(r); !got.equal(want) {
		t.Errorf("%s: %s: the argument shares memory with the result: %s, want %s", name(before), o.name, got, want)
	}
}

// R3: no function changes the robot or the slots that it gets, and the results are new memory.
func TestNoSharedMemory(t *testing.T) {
	for _, text := range []string{"A-B- P -", "A-B- - H", "ABCD P -", "---- - H", "---- P -", "-BC- P H", "AA-- - -", "AB- P -"} {
		for _, position := range []int{0, 6, 10, 11} {
			for _, o := range operations(chapter()) {
				checkMemory(t, o, position, text)
			}
		}
		r := roomy(3, text)
		before := whole(r)
		robot.Find(r, "B")
		robot.Find(r, "X")
		robot.Empty(r)
		if !same(whole(r), before) {
			t.Errorf("%s has become %s", name(before), name(whole(r)))
		}
	}
}

// R3: what is done with one result of a call does not change what others are made of.
func TestBranches(t *testing.T) {
	start := at(0, "AB-- P -")
	first := pick(slot(0), "").do(chapter(), start)
	second := pick(slot(1), "").do(chapter(), start)
	third := pick(port(), "").do(chapter(), start)
	fourth := pick(drive(0), "X").do(chapter(), start)
	left := put(slot(2)).do(chapter(), first.r)
	right := put(slot(3)).do(chapter(), first.r)
	away := put(drive(1)).do(chapter(), first.r)
	inPort := put(port()).do(chapter(), third.r)
	for _, x := range []struct {
		r    api.Robot
		want api.Robot
	}{
		{start, at(0, "AB-- P -")}, {first.r, at(0, "-B-- P A")}, {second.r, at(1, "A--- P B")}, {third.r, at(10, "AB-- - P")}, {fourth.r, at(6, "AB-- P X")},
		{left.r, at(2, "-BA- P -")}, {right.r, at(3, "-B-A P -")}, {away.r, at(7, "-B-- P -")}, {inPort.r, at(10, "AB-- P -")},
	} {
		if !same(x.r, x.want) {
			t.Errorf("%s, want %s", name(x.r), name(x.want))
		}
		spoil(x.r)
	}
}

// R3: nil and empty lists of slots are equal.
func TestNilAndEmpty(t *testing.T) {
	for _, slots := range [][]string{nil, {}} {
		for _, m := range []api.RobotModel{chapter(), {}, {Slots: 0, Drives: 1}, {Slots: 1, Drives: 1}} {
			r := api.Robot{Slots: slots, Port: "P"}
			for _, o := range operations(chapter()) {
				try(t, o, m, r)
			}
			for _, e := range []api.Element{slot(0), drive(0), port()} {
				expect(t, pick(e, "X"), m, r, api.ErrInvalid)
				expect(t, put(e), m, r, api.ErrInvalid)
			}
			checkFind(t, r, "P", port())
			checkEmpty(t, r, -1)
		}
	}
}
