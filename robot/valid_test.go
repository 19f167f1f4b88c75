package robot_test

import (
	"strings"
	"testing"

	"tapearchive/api"
	"tapearchive/robot"
)

// modelField is a field of a model, and its bounds.
type modelField struct {
	name        string
	of          func(m *api.RobotModel) *int
	least, most int
}

// modelFields are the fields of a model.
func modelFields() []modelField {
	return []modelField{
		{"Slots", func(m *api.RobotModel) *int { return &m.Slots }, 1, 64},
		{"Drives", func(m *api.RobotModel) *int { return &m.Drives }, 1, 8},
		{"DriveAt", func(m *api.RobotModel) *int { return &m.DriveAt }, 0, 1000},
		{"PortAt", func(m *api.RobotModel) *int { return &m.PortAt }, 0, 1000},
		{"Move", func(m *api.RobotModel) *int { return &m.Move }, 0, 1000000},
		{"Pick", func(m *api.RobotModel) *int { return &m.Pick }, 0, 1000000},
		{"Put", func(m *api.RobotModel) *int { return &m.Put }, 0, 1000000},
	}
}

// beyond are values that the field must not have.
func (f modelField) beyond() []int {
	l := append(extremes(), f.least-1, f.least-2, f.most+1, f.most+2, -f.most, 2*f.most+1)
	if f.least > 0 {
		return append(l, 0)
	}
	return l
}

// withSlots returns a robot with n slots, all of them empty but the first one.
func withSlots(n int) api.Robot {
	r := api.Robot{Slots: make([]string, n)}
	if n > 0 {
		r.Slots[0] = "A"
	}
	return r
}

// P12.1: models that are valid: each field at both of its bounds and in between, the others being those of the chapter
func TestValidModels(t *testing.T) {
	for _, f := range modelFields() {
		for _, n := range []int{f.least, f.least + 1, f.most / 2, f.most - 1, f.most} {
			m := chapter()
			*f.of(&m) = n
			r := withSlots(m.Slots)
			if !robot.Valid(m, r) {
				t.Errorf("%+v: %s does not fit", m, name(r))
			}
			if robot.Farthest(m) == 0 {
				t.Errorf("%+v is not valid", m)
			}
			for _, o := range operations(m) {
				try(t, o, m, r)
			}
		}
	}
	for _, m := range models() {
		if r := withSlots(m.Slots); !robot.Valid(m, r) {
			t.Errorf("%+v: %s does not fit", m, name(r))
		}
	}
}

// P12.1 to P12.5, P12.7: models that are not valid by one condition alone, with every function
func TestInvalidModels(t *testing.T) {
	for _, f := range modelFields() {
		for _, n := range f.beyond() {
			m := chapter()
			*f.of(&m) = n
			r := withSlots(4)
			if m.Slots >= 0 && m.Slots < 1000 {
				r = withSlots(m.Slots)
			}
			if robot.Valid(m, r) {
				t.Errorf("%+v: %s fits", m, name(r))
			}
			for _, e := range []api.Element{slot(0), slot(1), drive(0), port(), hand(), slot(-1)} {
				expect(t, pick(e, "X"), m, r, api.ErrInvalid)
				expect(t, put(e), m, r, api.ErrInvalid)
				expect(t, position(e), m, r, api.OK)
			}
			for _, o := range []operation{farthest(), travel(0, 0), travel(0, 1), travel(1, 0), travel(2, 2)} {
				expect(t, o, m, r, api.OK)
			}
			for _, o := range operations(chapter()) {
				try(t, o, m, r)
			}
		}
	}
}

// checkFit checks the functions that need a robot that fits the model.
func checkFit(t *testing.T, m api.RobotModel, r api.Robot, fits bool) {
	t.Helper()
	if got := robot.Valid(m, r); got != fits {
		t.Errorf("%+v, %s: Valid %t", m, name(r), got)
	}
	for _, e := range []api.Element{slot(0), drive(0), port(), hand()} {
		if got := try(t, position(e), m, r); got.ok != fits {
			t.Errorf("%+v, %s: the position of %+v: %s", m, name(r), e, got)
		}
	}
	for _, e := range []api.Element{slot(0), slot(3), drive(0), drive(1), port(), hand(), slot(-1)} {
		for _, o := range []operation{pick(e, "X"), put(e)} {
			if got := try(t, o, m, r); got.equal(result{e: api.ErrInvalid}) == fits {
				t.Errorf("%+v, %s: %s: %s", m, name(r), o.name, got)
			}
		}
	}
}

// P12.1: robots with more and with fewer Slots than the model
func TestNumbersOfSlots(t *testing.T) {
	for _, slots := range []int{1, 2, 4, 63, 64} {
		m := chapter()
		m.Slots = slots
		for _, n := range []int{0, 1, 2, 3, 4, 5, 62, 63, 64, 65, 1000} {
			r := withSlots(n)
			checkFit(t, m, r, n == slots)
		}
		if r := (api.Robot{}); robot.Valid(m, r) {
			t.Errorf("a robot without slots fits %+v", m)
		}
	}
}

// P12.1: At of -1, 0, the end of the rail and one more, where the end is that of the slots, of the drives, of the port, and of several of them
func TestEndsOfRails(t *testing.T) {
	for _, x := range []struct {
		m   api.RobotModel
		end int
	}{
		{api.RobotModel{Slots: 1, Drives: 1}, 0},
		{api.RobotModel{Slots: 2, Drives: 1}, 1},
		{api.RobotModel{Slots: 1, Drives: 2}, 1},
		{api.RobotModel{Slots: 1, Drives: 1, DriveAt: 1}, 1},
		{api.RobotModel{Slots: 1, Drives: 1, PortAt: 1}, 1},
		{api.RobotModel{Slots: 64, Drives: 8}, 63},
		{api.RobotModel{Slots: 64, Drives: 8, DriveAt: 55, PortAt: 62, Move: 1}, 63},
		{api.RobotModel{Slots: 64, Drives: 8, DriveAt: 56, PortAt: 63, Move: 1}, 63},
		{api.RobotModel{Slots: 64, Drives: 8, DriveAt: 57, PortAt: 63, Move: 1}, 64},
		{api.RobotModel{Slots: 64, Drives: 8, DriveAt: 57, PortAt: 65, Move: 1}, 65},
		{api.RobotModel{Slots: 64, Drives: 1, DriveAt: 1000, PortAt: 999, Move: 1}, 1000},
		{api.RobotModel{Slots: 1, Drives: 8, DriveAt: 1000, PortAt: 1000, Move: 1}, 1007},
		{api.RobotModel{Slots: 1, Drives: 8, DriveAt: 992, PortAt: 1000, Move: 1}, 1000},
		{chapter(), 10},
	} {
		for _, position := range append(extremes(), -2, -1, 0, 1, x.end/2, x.end-1, x.end, x.end+1, x.end+2, 1000, 1001, 1007, 1008) {
			r := withSlots(x.m.Slots)
			r.At = position
			want := position >= 0 && position <= x.end
			checkFit(t, x.m, r, want)
			if got, ok := robot.Position(x.m, r, hand()); ok != want || ok && got != position {
				t.Errorf("%+v: the hand at %d: %d %t", x.m, position, got, ok)
			}
		}
	}
}

// P12.1: the same barcode in two places, and empty barcodes in all of them
func TestSameBarcodes(t *testing.T) {
	m := chapter()
	for _, x := range []struct {
		text string
		fits bool
	}{
		{"---- - -", true}, {"ABCD E F", true}, {"A--- - -", true}, {"---- A -", true}, {"---- - A", true}, {"A--- B -", true}, {"A--- - B", true}, {"---- A B", true},
		{"AA-- - -", false}, {"A--A - -", false}, {"--AA - -", false}, {"ABCA - -", false}, {"AAAA - -", false}, {"-A-A B C", false}, // two slots
		{"A--- A -", false}, {"---A A -", false}, {"ABCD C -", false}, {"-A-- A B", false}, // a slot and the port
		{"A--- - A", false}, {"---A - A", false}, {"ABCD - B", false}, {"-A-- B A", false}, // a slot and the hand
		{"---- A A", false}, {"BCDE A A", false}, // the port and the hand
		{"A--- A A", false}, {"AA-- A A", false}, {"AA-- B B", false}, {"AABB - -", false},
	} {
		checkFit(t, m, at(3, x.text), x.fits)
		checkFit(t, m, failed(at(3, x.text)), x.fits)
	}
}

// P12.1: any bytes are a barcode, if there are some; only equal ones are the same.
func TestStrangeBarcodes(t *testing.T) {
	long := strings.Repeat("A", 100000)
	l := []string{"A", "a", "AA", "B", "-", " ", "\x00", "\x00\x00", "\xff", "A ", " A", "\n", "é", long, long + "A", long[1:] + "B"}
	for _, a := range l {
		for _, b := range l {
			for _, r := range []api.Robot{{Slots: []string{a, "", b, ""}}, {Slots: []string{"", "", "", a}, Port: b}, {Slots: []string{a, "", "", ""}, Hand: b}, {Slots: make([]string, 4), Port: a, Hand: b}} {
				if got := robot.Valid(chapter(), r); got != (a != b) {
					t.Errorf("%.9q and %.9q: %t", a, b, got)
				}
			}
		}
	}
}

// P12.1: the greatest robot, with a barcode twice in any two of its elements
func TestSameBarcodesOfMany(t *testing.T) {
	m := models()[2]
	for i := range 66 {
		for k := range i {
			r := at(1007, slots(64)[0]+" P H")
			if !robot.Valid(m, r) {
				t.Fatalf("%s does not fit", name(r))
			}
			all := []*string{&r.Port, &r.Hand}
			for s := range r.Slots {
				all = append(all, &r.Slots[s])
			}
			if *all[i] = *all[k]; robot.Valid(m, r) {
				t.Errorf("%s fits", name(r))
			}
			if *all[i] = ""; !robot.Valid(m, r) {
				t.Errorf("%s does not fit", name(r))
			}
			if *all[k] = ""; !robot.Valid(m, r) {
				t.Errorf("%s does not fit", name(r))
			}
		}
	}
}

// P12.1: a robot that is out of order fits the model as any other one.
func TestOutOfOrder(t *testing.T) {
	for _, m := range models() {
		for _, r := range robots(m) {
			if !robot.Valid(m, r) {
				t.Errorf("%+v: %s does not fit", m, name(r))
			}
			for _, e := range elements(m) {
				got := try(t, position(e), m, r)
				r := r
				r.Failed = !r.Failed
				if again := try(t, position(e), m, r); !again.equal(got) {
					t.Errorf("%+v, %s: the position of %+v: %s, but otherwise %s", m, name(r), e, again, got)
				}
			}
		}
	}
}

// R1: the least and the greatest ints in all arguments
func TestExtremeArguments(t *testing.T) {
	numbers := append(extremes(), -1, 0, 1)
	for _, n := range numbers {
		for _, k := range numbers {
			m := api.RobotModel{Slots: n, Drives: k, DriveAt: n, PortAt: k, Move: n, Pick: k, Put: n}
			r := api.Robot{At: k, Slots: []string{"A"}, Port: "P"}
			e := api.Element{Kind: n, Index: k}
			for _, o := range []operation{valid(), farthest(), travel(n, k), position(e), position(slot(n)), position(drive(n)), position(port()), pick(e, "X"), pick(drive(n), "X"), pick(slot(k), ""), put(e), put(slot(n)), put(drive(k))} {
				try(t, o, m, r)
				try(t, o, chapter(), r)
				try(t, o, m, at(0, "A-B- - -"))
				for _, text := range []string{"A-B- - -", "A-B- - H", "---- P -"} {
					try(t, o, chapter(), at(3, text))
				}
			}
			for _, f := range modelFields() {
				m := chapter()
				*f.of(&m) = n
				for _, o := range []operation{travel(0, k), travel(k, 0), travel(k, n)} {
					try(t, o, m, api.Robot{})
				}
			}
		}
	}
}
