package robot_test

import (
	"testing"

	"tapearchive/api"
	"tapearchive/robot"
)

// P12.2: every Kind of element, and Kinds that are none, with an Index of -1, 0, the last, and one more
func TestPosition(t *testing.T) {
	m, r := chapter(), at(8, "A-B- P -")
	for _, x := range []struct {
		e    api.Element
		want int
		ok   bool
	}{
		{slot(-1), 0, false}, {slot(0), 0, true}, {slot(1), 1, true}, {slot(3), 3, true}, {slot(4), 0, false},
		{drive(-1), 0, false}, {drive(0), 6, true}, {drive(1), 7, true}, {drive(2), 0, false}, {drive(6), 0, false},
		{api.Element{Kind: api.ElementPort, Index: -1}, 0, false}, {port(), 10, true}, {api.Element{Kind: api.ElementPort, Index: 1}, 0, false}, {api.Element{Kind: api.ElementPort, Index: 10}, 0, false},
		{api.Element{Kind: api.ElementHand, Index: -1}, 0, false}, {hand(), 8, true}, {api.Element{Kind: api.ElementHand, Index: 1}, 0, false}, {api.Element{Kind: api.ElementHand, Index: 8}, 0, false},
		{api.Element{Kind: -1}, 0, false}, {api.Element{Kind: 4}, 0, false}, {api.Element{Kind: 256}, 0, false},
	} {
		for _, r := range []api.Robot{r, failed(r)} {
			if got, ok := robot.Position(m, r, x.e); got != x.want || ok != x.ok {
				t.Errorf("%+v is at %d %t, want %d %t", x.e, got, ok, x.want, x.ok)
			}
		}
	}
	for _, m := range models() {
		for _, r := range robots(m) {
			for _, e := range elements(m) {
				try(t, position(e), m, r)
			}
		}
	}
}

// P12.2: all elements of models with several elements at one position
func TestSamePositions(t *testing.T) {
	for _, x := range []struct {
		m                       api.RobotModel
		slots, drives, port, at int
	}{
		{api.RobotModel{Slots: 1, Drives: 1}, 1, 1, 0, 0},
		{api.RobotModel{Slots: 64, Drives: 8, DriveAt: 60, PortAt: 67}, 64, 8, 67, 61},
		{api.RobotModel{Slots: 5, Drives: 5, DriveAt: 0, PortAt: 4}, 5, 5, 4, 4},
	} {
		r := withSlots(x.slots)
		r.At = x.at
		for i := range x.slots {
			if got, ok := robot.Position(x.m, r, slot(i)); got != i || !ok {
				t.Errorf("%+v: slot %d is at %d %t", x.m, i, got, ok)
			}
		}
		for i := range x.drives {
			if got, ok := robot.Position(x.m, r, drive(i)); got != x.m.DriveAt+i || !ok {
				t.Errorf("%+v: drive %d is at %d %t", x.m, i, got, ok)
			}
		}
		if got, ok := robot.Position(x.m, r, port()); got != x.port || !ok {
			t.Errorf("%+v: the port is at %d %t", x.m, got, ok)
		}
		if got, ok := robot.Position(x.m, r, hand()); got != x.at || !ok {
			t.Errorf("%+v: the hand is at %d %t", x.m, got, ok)
		}
	}
	m := api.RobotModel{Slots: 2, Drives: 1, DriveAt: 1, PortAt: 1, Move: 1000, Pick: 5, Put: 4}
	r := at(1, "-A - -")
	for _, e := range []api.Element{drive(0), slot(0), port(), slot(1)} { // at one position, but slot 0
		taken := try(t, pick(slot(1), ""), m, r)
		given := try(t, put(e), m, taken.r)
		if want := 4 + 1000*(1-min(e.Index+e.Kind, 1)); taken.n != 5 || given.n != want {
			t.Errorf("%+v: %d, %d, want 5, %d", e, taken.n, given.n, want)
		}
	}
}

// P12.3: from and to the ends of the rail, the same place, and beyond it on each side
func TestTravel(t *testing.T) {
	for _, x := range []struct{ from, to, want int }{
		{0, 10, 20}, {10, 0, 20}, {3, 10, 14}, {10, 3, 14}, {0, 1, 2}, {1, 0, 2}, {7, 5, 4},
		{0, 0, 0}, {4, 4, 0}, {10, 10, 0},
		{-1, 0, 0}, {0, -1, 0}, {-1, 10, 0}, {10, -1, 0}, {-3, -1, 0}, {11, 0, 0}, {0, 11, 0}, {3, 11, 0}, {11, 10, 0}, {10, 11, 0}, {12, 11, 0}, {-1, 11, 0}, {11, -1, 0},
	} {
		if got := robot.Travel(chapter(), x.from, x.to); got != x.want {
			t.Errorf("from %d to %d: %d, want %d", x.from, x.to, got, x.want)
		}
	}
	for _, m := range models() {
		end := rail(m)
		numbers := append(extremes(), -2, -1, 0, 1, 2, end/2, end-1, end, end+1, end+2)
		for _, from := range numbers {
			for _, to := range numbers {
				got := try(t, travel(from, to), m, api.Robot{})
				if from >= 0 && from <= end && to >= 0 && to <= end && got.n != m.Move*max(from-to, to-from) {
					t.Errorf("%+v: from %d to %d: %s", m, from, to, got)
				}
			}
		}
	}
	if got := robot.Travel(models()[2], 0, 1007); got != 1007000000 {
		t.Error(got)
	}
	if got := robot.Travel(models()[2], 1007, 0); got != 1007000000 {
		t.Error(got)
	}
}

// P12.3: all pairs of positions
func TestTravelOfAllPairs(t *testing.T) {
	for _, m := range models() {
		if rail(m) > 100 {
			continue
		}
		for from := -2; from <= rail(m)+2; from++ {
			for to := -2; to <= rail(m)+2; to++ {
				try(t, travel(from, to), m, api.Robot{})
			}
		}
	}
}

// P12.7: the least and the greatest models, and each time alone
func TestFarthest(t *testing.T) {
	for _, x := range []struct {
		m    api.RobotModel
		want int
	}{
		{chapter(), 49},
		{api.RobotModel{Slots: 1, Drives: 1}, 0},
		{api.RobotModel{Slots: 1, Drives: 1, Move: 1000000}, 0},
		{api.RobotModel{Slots: 1, Drives: 1, Move: 1, Pick: 20, Put: 300}, 320},
		{api.RobotModel{Slots: 1, Drives: 1, Pick: 20}, 20},
		{api.RobotModel{Slots: 1, Drives: 1, Put: 300}, 300},
		{api.RobotModel{Slots: 64, Drives: 1, Move: 1}, 126},
		{api.RobotModel{Slots: 1, Drives: 8, Move: 1}, 14},
		{api.RobotModel{Slots: 1, Drives: 1, DriveAt: 9, Move: 1}, 18},
		{api.RobotModel{Slots: 1, Drives: 1, PortAt: 9, Move: 1}, 18},
		{api.RobotModel{Slots: 64, Drives: 8, DriveAt: 1000, PortAt: 1000, Move: 1000000, Pick: 1000000, Put: 1000000}, 2016000000},
		{api.RobotModel{Slots: 64, Drives: 8, DriveAt: 992, PortAt: 1000, Move: 1000000, Pick: 1000000, Put: 1000000}, 2002000000},
		{api.RobotModel{}, 0},
		{api.RobotModel{Slots: 0, Drives: 1, Move: 1, Pick: 2, Put: 3}, 0},
		{api.RobotModel{Slots: 1, Drives: 9, Move: 1, Pick: 2, Put: 3}, 0},
	} {
		if got := robot.Farthest(x.m); got != x.want {
			t.Errorf("%+v: %d, want %d", x.m, got, x.want)
		}
	}
	for _, m := range models() {
		try(t, farthest(), m, api.Robot{})
	}
}
