package robot_test

import (
	"slices"
	"testing"

	"tapearchive/api"
	"tapearchive/robot"
)

// yard is a robot with drives, whose cartridges the robot does not know.
type yard struct {
	t      *testing.T
	m      api.RobotModel
	r      api.Robot
	drives []string
}

// cartridges returns the barcodes of all cartridges, ascending.
func (y *yard) cartridges() []string {
	l := slices.Concat(y.r.Slots, y.drives, []string{y.r.Port, y.r.Hand})
	l = slices.DeleteFunc(l, func(barcode string) bool { return barcode == "" })
	slices.Sort(l)
	return l
}

// outside returns what barcode Pick must get: that of a drive, and otherwise none.
func (y *yard) outside(e api.Element) string {
	if e.Kind == api.ElementDrive {
		return y.drives[e.Index]
	}
	return ""
}

// pick picks from an element, and returns the time and the error.
func (y *yard) pick(e api.Element) (int, api.Errno) {
	y.t.Helper()
	got := try(y.t, pick(e, y.outside(e)), y.m, y.r)
	if got.e == api.OK {
		if y.r = got.r; e.Kind == api.ElementDrive {
			y.drives[e.Index] = ""
		}
	}
	return got.n, got.e
}

// put puts into an element, a drive only if it is empty, and returns the time and the error.
func (y *yard) put(e api.Element) (int, api.Errno) {
	y.t.Helper()
	if e.Kind == api.ElementDrive && y.drives[e.Index] != "" {
		return 0, api.ErrFull
	}
	got := try(y.t, put(e), y.m, y.r)
	if got.e == api.OK {
		if e.Kind == api.ElementDrive {
			y.drives[e.Index] = y.r.Hand
		}
		y.r = got.r
	}
	return got.n, got.e
}

// check checks that the robot fits the model, and that the cartridges are these.
func (y *yard) check(want []string) {
	y.t.Helper()
	if !robot.Valid(y.m, y.r) {
		y.t.Errorf("%+v: %s does not fit", y.m, name(y.r))
	}
	if got := y.cartridges(); !slices.Equal(got, want) {
		y.t.Errorf("%+v: %s, drives %q: the cartridges were %q", y.m, name(y.r), y.drives, want)
	}
}

// places returns the slots, the drives and the port of a model, in an order that is the same in each run.
func places(m api.RobotModel) []api.Element {
	l := []api.Element{port()}
	for i := range m.Slots {
		l = append(l, slot(i))
	}
	for i := range m.Drives {
		l = append(l, drive(i))
	}
	return l
}

// mixed returns a yard in which some of the elements are empty, with the robot anywhere.
func mixed(t *testing.T, m api.RobotModel, r *random) *yard {
	y := &yard{t: t, m: m, r: api.Robot{At: r.below(rail(m) + 1), Slots: make([]string, m.Slots)}, drives: make([]string, m.Drives)}
	all := []*string{&y.r.Port}
	for i := range y.r.Slots {
		all = append(all, &y.r.Slots[i])
	}
	for i := range y.drives {
		all = append(all, &y.drives[i])
	}
	for i, barcode := range all {
		if r.below(3) > 0 {
			*barcode = "TAPE" + string(rune('A'+i/10)) + string(rune('0'+i%10))
		}
	}
	return y
}

// P12.8: sequences of Picks and Puts, in any order: the cartridges stay the same, and a Pick with the Put that follows it takes at most Farthest.
func TestSequences(t *testing.T) {
	var r random
	for round := range 60 {
		m := models()[round%len(models())]
		y, l := mixed(t, m, &r), places(m)
		want := y.cartridges()
		var sum, done, moved int
		for range 300 {
			e := l[r.below(len(l))]
			before := cloned(y.r)
			if r.below(2) == 0 {
				n, errno := y.pick(e)
				if errno == api.OK {
					sum = n
					done++
				} else if !same(y.r, before) || n != 0 {
					t.Errorf("%+v, %s: Pick from %+v: %d %d", m, name(before), e, n, errno)
				}
			} else if n, errno := y.put(e); errno == api.OK {
				if sum += n; sum > robot.Farthest(m) {
					t.Errorf("%+v: a Pick and a Put take %d, but Farthest is %d", m, sum, robot.Farthest(m))
				}
				moved++
			}
			y.check(want)
		}
		if len(want) > 0 && m.Slots > 1 && (done < 10 || moved < done-1) {
			t.Errorf("%+v: only %d Picks and %d Puts", m, done, moved)
		}
	}
}

// P12.8: the sum of the times against Farthest, for all places of the robot, the Pick and the Put; it is reached from an end of the rail.
func TestFarthestOfAll(t *testing.T) {
	for _, m := range models() {
		greatest := 0
		ends := []int{0, rail(m) / 2, rail(m)}
		for _, start := range ends {
			for _, from := range places(m) {
				for _, to := range places(m) {
					y := &yard{t: t, m: m, r: api.Robot{At: start, Slots: make([]string, m.Slots)}, drives: make([]string, m.Drives)}
					y.drives[0] = "D"
					switch from.Kind {
					case api.ElementSlot:
						y.r.Slots[from.Index] = "A"
					case api.ElementDrive:
						y.drives[from.Index] = "A"
					case api.ElementPort:
						y.r.Port = "A"
					}
					want := y.cartridges()
					first, errno := y.pick(from)
					if errno != api.OK {
						t.Fatalf("%+v: Pick from %+v: %d", m, from, errno)
					}
					y.check(want)
					second, errno := y.put(to)
					if errno != api.OK && to != drive(0) {
						t.Fatalf("%+v: Put into %+v: %d", m, to, errno)
					}
					y.check(want)
					greatest = max(greatest, first+second)
				}
			}
		}
		if greatest != robot.Farthest(m) {
			t.Errorf("%+v: a Pick and a Put take up to %d, but Farthest is %d", m, greatest, robot.Farthest(m))
		}
	}
}

// P12.9: putting a cartridge back where it was picked
func TestPuttingBack(t *testing.T) {
	var r random
	for round := range 80 {
		m := models()[round%len(models())]
		y := mixed(t, m, &r)
		for _, e := range places(m) {
			before, drives, want := cloned(y.r), slices.Clone(y.drives), y.cartridges()
			if _, errno := y.pick(e); errno != api.OK {
				continue
			}
			if same(y.r, before) || y.r.Hand == "" {
				t.Errorf("%+v, %s: Pick from %+v gives it back", m, name(before), e)
			}
			n, errno := y.put(e)
			if errno != api.OK || n != m.Put {
				t.Errorf("%+v, %s: Put back into %+v: the time %d, error %d", m, name(y.r), e, n, errno)
			}
			back := cloned(y.r)
			back.At = before.At
			if !same(back, before) || !slices.Equal(y.drives, drives) || y.r.At != positions(m)[e] {
				t.Errorf("%+v, %s: what was put back into %+v: %s", m, name(before), e, name(y.r))
			}
			y.check(want)
		}
	}
}
