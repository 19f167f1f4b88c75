package library_test

import (
	"fmt"
	"slices"
	"strings"
	"testing"

	"tapearchive/api"
	"tapearchive/library"
)

// fault puts a fault into a library.
type fault struct {
	name string
	put  func(l *api.Library)
}

// tapeFault puts a fault into a cartridge.
type tapeFault struct {
	name string
	put  func(c *api.Cartridge)
}

// numberFaults are faults of one number each: one less and one more than permitted. The pointers are those of a library.
func numberFaults(name string, least, most int, of func(l *api.Library) *int) []fault {
	return []fault{
		{fmt.Sprintf("%s %d", name, least-1), func(l *api.Library) { *of(l) = least - 1 }},
		{fmt.Sprintf("%s %d", name, most+1), func(l *api.Library) { *of(l) = most + 1 }},
	}
}

// robotModelFaults are faults of the model of the robot alone.
func robotModelFaults() []fault {
	return slices.Concat(
		numberFaults("Slots", 1, 64, func(l *api.Library) *int { return &l.Model.Slots }),
		numberFaults("Drives", 1, 8, func(l *api.Library) *int { return &l.Model.Drives }),
		numberFaults("DriveAt", 0, 1000, func(l *api.Library) *int { return &l.Model.DriveAt }),
		numberFaults("PortAt", 0, 1000, func(l *api.Library) *int { return &l.Model.PortAt }),
		numberFaults("Move", 0, 1000000, func(l *api.Library) *int { return &l.Model.Move }),
		numberFaults("Pick", 0, 1000000, func(l *api.Library) *int { return &l.Model.Pick }),
		numberFaults("Put", 0, 1000000, func(l *api.Library) *int { return &l.Model.Put }))
}

// driveModelFaults are faults of the model of the drives alone.
func driveModelFaults() []fault {
	return slices.Concat(
		numberFaults("Load", 0, 1000000, func(l *api.Library) *int { return &l.Drive.Load }),
		numberFaults("Unload", 0, 1000000, func(l *api.Library) *int { return &l.Drive.Unload }),
		numberFaults("Clean", 0, 1000000, func(l *api.Library) *int { return &l.Drive.Clean }),
		numberFaults("CleanEvery", 0, 1<<50, func(l *api.Library) *int { return &l.Drive.CleanEvery }),
		numberFaults("CartridgeLife", 0, 1<<50, func(l *api.Library) *int { return &l.Drive.CartridgeLife }))
}

// tapeFaults are faults of a cartridge alone.
func tapeFaults() []tapeFault {
	list := []tapeFault{
		{"no barcode", func(c *api.Cartridge) { c.Barcode = "" }},
		{"a long barcode", func(c *api.Cartridge) { c.Barcode = strings.Repeat("A", 25) }},
		{"a small letter", func(c *api.Cartridge) { c.Barcode += "a" }},
		{"a byte that is no letter", func(c *api.Cartridge) { c.Barcode += "\xff" }},
		{"no wraps", func(c *api.Cartridge) { c.Geometry.Wraps = 0 }},
		{"too many wraps", func(c *api.Cartridge) { c.Geometry.Wraps = 33 }},
		{"no length", func(c *api.Cartridge) { c.Geometry.Length = 0 }},
		{"too long", func(c *api.Cartridge) { c.Geometry.Length = 2049 }},
		{"a negative time", func(c *api.Cartridge) { c.Geometry.Step = -1 }},
		{"too great a time", func(c *api.Cartridge) { c.Geometry.Stream = 1000001 }},
		{"too many blocks", func(c *api.Cartridge) { c.Blocks = blocks("abcdefg") }},
		{"a block without data", func(c *api.Cartridge) { c.Blocks[4].Data = nil }},
		{"a mark with data", func(c *api.Cartridge) { c.Blocks[0].Mark = true }},
		{"a block of 65 bytes", func(c *api.Cartridge) { c.Blocks[2].Data = make([]byte, 65) }},
	}
	for i, field := range []string{"Epoch", "Loads", "Passes"} {
		counter := func(c *api.Cartridge) *int { return []*int{&c.Epoch, &c.Loads, &c.Passes}[i] }
		list = append(list, tapeFault{field + " -1", func(c *api.Cartridge) { *counter(c) = -1 }}, tapeFault{field + " 1<<50+1", func(c *api.Cartridge) { *counter(c) = 1<<50 + 1 }})
	}
	return list
}

// start returns the library into which the faults are put: it has a cartridge in each kind of element.
func start() api.Library { return lib("AB- P H C-d!") }

// robotFaults are faults of the robot and of its relation to the model.
func robotFaults() []fault {
	return []fault{
		{"At -1", func(l *api.Library) { l.Robot.At = -1 }},
		{"At behind the port", func(l *api.Library) { l.Robot.At = 13 }},
		{"At behind the drives", func(l *api.Library) { l.Model.PortAt, l.Robot.At = 0, 9 }},
		{"a slot more", func(l *api.Library) { l.Robot.Slots = append(l.Robot.Slots, "") }},
		{"a slot less", func(l *api.Library) { l.Robot.Slots = l.Robot.Slots[:2] }},
		{"no slots", func(l *api.Library) { l.Robot.Slots = nil }},
		{"a slot more in the model", func(l *api.Library) { l.Model.Slots++ }},
		{"a slot less in the model", func(l *api.Library) { l.Model.Slots-- }},
	}
}

// driveFaults are faults of the drives and of their relation to the model and the cartridges.
func driveFaults() []fault {
	list := []fault{
		{"a drive more", func(l *api.Library) { l.Drives = append(l.Drives, api.Drive{}) }},
		{"a drive less", func(l *api.Library) { l.Drives = l.Drives[:3] }},
		{"no drives", func(l *api.Library) { l.Drives = nil }},
		{"a drive more in the model", func(l *api.Library) { l.Model.Drives++ }},
		{"a drive less in the model", func(l *api.Library) { l.Model.Drives-- }},
		{"an empty drive with a head", func(l *api.Library) { l.Drives[1].Head = 1 }},
		{"an empty drive with a cartridge", func(l *api.Library) { l.Drives[0].State, l.Drives[0].Head = 0, 0 }},
		{"an empty drive with the cartridge of a slot", func(l *api.Library) { l.Drives[1].Barcode, l.Robot.Slots[0] = "A", "" }},
		{"a ready drive without a cartridge", func(l *api.Library) { l.Drives[1].State = 1 }},
		{"a ready drive with a cartridge that is nowhere", func(l *api.Library) { l.Drives[1].State, l.Drives[1].Barcode = 1, "X" }},
		{"a failed drive with a cartridge that is nowhere", func(l *api.Library) { l.Drives[3].Barcode = "X" }},
		{"a ready drive whose head is behind the end of data", func(l *api.Library) { l.Drives[0].Head = 6 }},
		{"a ready drive whose head is behind an empty tape", func(l *api.Library) { l.Cartridges[2].Blocks, l.Drives[0].Head = nil, 1 }},
	}
	for i := range start().Drives {
		of := func(f func(d *api.Drive) *int) func(l *api.Library) *int {
			return func(l *api.Library) *int { return f(&l.Drives[i]) }
		}
		list = slices.Concat(list,
			numberFaults(fmt.Sprint("State of drive ", i), 0, 2, of(func(d *api.Drive) *int { return &d.State })),
			numberFaults(fmt.Sprint("Loads of drive ", i), 0, 1<<50, of(func(d *api.Drive) *int { return &d.Loads })),
			numberFaults(fmt.Sprint("Passes of drive ", i), 0, 1<<50, of(func(d *api.Drive) *int { return &d.Passes })),
			numberFaults(fmt.Sprint("Since of drive ", i), 0, 1<<50, of(func(d *api.Drive) *int { return &d.Since })),
			numberFaults(fmt.Sprint("Head of drive ", i), 0, 4096, of(func(d *api.Drive) *int { return &d.Head })))
	}
	return list
}

// cartridgeFaults are faults of the list of cartridges.
func cartridgeFaults() []fault {
	list := []fault{
		{"no cartridges", func(l *api.Library) { l.Cartridges = nil }},
		{"not ascending", func(l *api.Library) { l.Cartridges[0], l.Cartridges[1] = l.Cartridges[1], l.Cartridges[0] }},
		{"not ascending at the end", func(l *api.Library) { l.Cartridges[4], l.Cartridges[5] = l.Cartridges[5], l.Cartridges[4] }},
		{"descending", func(l *api.Library) { slices.Reverse(l.Cartridges) }},
		{"the last one first", func(l *api.Library) {
			l.Cartridges = slices.Concat(l.Cartridges[5:], l.Cartridges[:5])
		}},
	}
	for i := range start().Cartridges {
		list = append(list,
			fault{fmt.Sprintf("cartridge %d twice", i), func(l *api.Library) { l.Cartridges = slices.Insert(l.Cartridges, i, l.Cartridges[i]) }},
			fault{fmt.Sprintf("cartridge %d is missing", i), func(l *api.Library) { l.Cartridges = slices.Delete(l.Cartridges, i, i+1) }})
		for _, f := range tapeFaults() {
			list = append(list, fault{fmt.Sprintf("cartridge %d: %s", i, f.name), func(l *api.Library) {
				// The element gets the same barcode, so that nothing else is wrong.
				e, _ := place(*l, l.Cartridges[i].Barcode)
				f.put(&l.Cartridges[i])
				*in(l, e) = l.Cartridges[i].Barcode
			}})
		}
	}
	return list
}

// everywhere are elements of each kind: drive 0 and drive 3 are failed, and drive 2 is ready if there is a cartridge in it.
func everywhere() []api.Element {
	return []api.Element{slot(0), slot(2), driveAt(0), driveAt(2), driveAt(3), port(), hand()}
}

// alone returns a library whose only cartridge A is in these elements: in two of them, or in one if they are the same.
func alone(one, other api.Element) api.Library {
	l := lib("--- - - !--!")
	l.Cartridges = tapes("A")
	*in(&l, one), *in(&l, other) = "A", "A"
	l.Drives[2].State = len(l.Drives[2].Barcode)
	return l
}

// placeFaults are faults of the places of cartridges: one in no element, one in two elements of each pair of kinds, and a barcode in each kind of element that is no cartridge's.
func placeFaults() []fault {
	var list []fault
	for i, e := range everywhere() {
		list = append(list, fault{fmt.Sprintf("a stranger in %+v", e), func(l *api.Library) { *in(l, e) = "X" }})
		list = append(list, fault{fmt.Sprintf("a further stranger in %+v", e), func(l *api.Library) {
			// What was there is nowhere any more.
			at, found := find(l.Cartridges, *in(l, e))
			if *in(l, e) = "X"; found {
				l.Cartridges = slices.Delete(l.Cartridges, at, at+1)
			}
		}})
		for _, other := range everywhere()[:i] {
			list = append(list, fault{fmt.Sprintf("A in %+v and in %+v", e, other), func(l *api.Library) { *l = alone(e, other) }})
			list = append(list, fault{fmt.Sprintf("A in %+v and in %+v, and twice among the cartridges", e, other), func(l *api.Library) {
				*l = alone(e, other)
				l.Cartridges = tapes("AA")
			}})
		}
	}
	for _, letter := range []string{"A", "B", "C", "D", "H", "P"} {
		list = append(list, fault{letter + " in no element", func(l *api.Library) {
			e, _ := place(*l, letter)
			if *in(l, e) = ""; e.Kind == 1 {
				l.Drives[e.Index] = api.Drive{}
			}
		}})
	}
	return list
}

// find returns the place of a cartridge in a list, and whether it is there.
func find(l []api.Cartridge, barcode string) (int, bool) {
	at := slices.IndexFunc(l, func(c api.Cartridge) bool { return c.Barcode == barcode })
	return at, at >= 0
}

// faults are all ways in which a library is not valid, each of them alone.
func faults() []fault {
	return slices.Concat(robotModelFaults(), driveModelFaults(), robotFaults(), driveFaults(), cartridgeFaults(), placeFaults())
}

// P13.2: libraries that are not valid by each condition alone; and of the definitions, ErrInvalid of all functions comes before all other errors.
func TestInvalidLibraries(t *testing.T) {
	if !library.Valid(start()) {
		t.Fatal("the library without a fault is not valid")
	}
	all := operations(start(), "ACDHPX")
	for _, f := range faults() {
		l := start()
		f.put(&l)
		if library.Valid(l) || isValid(l) {
			t.Errorf("%s: valid", f.name)
		}
		if e, found := library.Where(l, "A"); found || e != (api.Element{}) {
			t.Errorf("%s: Where: %+v %t", f.name, e, found)
		}
		for _, o := range all {
			before := cloned(l)
			got := o.do(l)
			if strings.HasPrefix(o.name, "Valid") || strings.HasPrefix(o.name, "Where") {
				got.e = api.ErrInvalid // they return no error
			}
			if !got.equal(result{e: api.ErrInvalid}) || !same(l, before) {
				t.Errorf("%s: %s: %s", f.name, o.name, got)
			}
		}
	}
}

// P13.2: a library whose cartridge is in one element of each kind alone
func TestOnePlace(t *testing.T) {
	for _, e := range everywhere() {
		expectValid(t, fmt.Sprintf("A in %+v", e), alone(e, e))
	}
}

// expectValid checks that a library is valid, and all functions with it.
func expectValid(t *testing.T, what string, l api.Library) {
	t.Helper()
	if !library.Valid(l) || !isValid(l) {
		t.Errorf("%s: not valid: %s", what, name(l))
	}
	for _, o := range operations(l, "ACX") {
		try(t, o, l)
	}
}

// P13.2: numbers at their bounds
func TestValidBounds(t *testing.T) {
	for _, f := range []fault{
		{"At 0", func(l *api.Library) { l.Robot.At = 0 }},
		{"At the port", func(l *api.Library) { l.Robot.At = 12 }},
		{"At the last drive", func(l *api.Library) { l.Model.PortAt, l.Robot.At = 0, 8 }},
		{"At the last slot", func(l *api.Library) { l.Model.PortAt, l.Model.DriveAt, l.Model.Drives, l.Robot.At = 0, 0, 4, 2 }},
		{"no times", func(l *api.Library) { l.Model.Move, l.Model.Pick, l.Model.Put, l.Drive = 0, 0, 0, api.DriveModel{} }},
		{"most times", func(l *api.Library) {
			l.Model.Move, l.Model.Pick, l.Model.Put = 1000000, 1000000, 1000000
			l.Drive = api.DriveModel{Load: 1000000, Unload: 1000000, Clean: 1000000, CleanEvery: 1 << 50, CartridgeLife: 1 << 50}
		}},
		{"heads at 0", func(l *api.Library) { l.Drives[0].Head, l.Drives[2].Head, l.Drives[3].Head = 0, 0, 0 }},
		{"a head at the end of data", func(l *api.Library) { l.Drives[0].Head = 5 }},
		{"a head in front of an empty tape", func(l *api.Library) { l.Cartridges[2].Blocks, l.Drives[0].Head = nil, 0 }},
		{"failed drives with heads behind the end of data", func(l *api.Library) { l.Drives[2].Head, l.Drives[3].Head = 6, 4096 }},
		{"a failed drive with the greatest head", func(l *api.Library) { l.Drives[2].Head = 4096 }},
		{"counters of 0", func(l *api.Library) {
			for i, d := range l.Drives {
				l.Drives[i] = api.Drive{State: d.State, Barcode: d.Barcode, Head: d.Head}
			}
		}},
		{"the greatest counters", func(l *api.Library) {
			for i := range l.Drives {
				l.Drives[i].Loads, l.Drives[i].Passes, l.Drives[i].Since = 1<<50, 1<<50, 1<<50
			}
			for i := range l.Cartridges {
				l.Cartridges[i].Epoch, l.Cartridges[i].Loads, l.Cartridges[i].Passes = 1<<50, 1<<50, 1<<50
			}
		}},
		{"nothing in it", func(l *api.Library) { *l = lib("--- - - --!") }},
		{"all elements full", func(l *api.Library) { *l = lib("ABCD E F GHij") }},
		{"the least one", func(l *api.Library) {
			*l = lib("- - - -")
			l.Model = api.RobotModel{Slots: 1, Drives: 1}
			l.Robot.At = 0
		}},
	} {
		l := start()
		f.put(&l)
		expectValid(t, f.name, l)
	}
}

// crowd returns a library with 64 slots and eight drives that has as many cartridges as this, which fill the drives, the port, the hand, and then the slots from 0 on.
func crowd(n int) api.Library {
	l := lib(strings.Repeat("-", 64) + " - - --------")
	l.Cartridges = many(n)
	var all []*string
	for i := range l.Drives {
		all = append(all, &l.Drives[i].Barcode)
	}
	all = append(all, &l.Robot.Port, &l.Robot.Hand)
	for i := range l.Robot.Slots {
		all = append(all, &l.Robot.Slots[i])
	}
	for i, c := range l.Cartridges {
		if *all[i] = c.Barcode; i < 8 {
			l.Drives[i].State = 1
		}
	}
	return l
}

// P13.2: at most MaxVolumes cartridges
func TestValidMost(t *testing.T) {
	for n := range 75 {
		l := crowd(n)
		if want := n <= 64; library.Valid(l) != want || isValid(l) != want {
			t.Errorf("with %d cartridges: valid is %t", n, library.Valid(l))
		}
		if n > 64 {
			expect(t, service(), l, api.ErrInvalid)
			expect(t, remove("TAPE003"), l, api.ErrInvalid)
		}
	}
	expectValid(t, "64 cartridges in all elements", crowd(64))
	full, _ := library.New(robotModel(64, 8), driveModel(), many(64))
	expectValid(t, "64 cartridges in slots", full)
}

// P13.2: the least and the greatest ints in each number of a library
func TestValidExtremes(t *testing.T) {
	for _, n := range extremes() {
		for i := range 9 {
			l := start()
			*[]*int{&l.Robot.At, &l.Drives[0].State, &l.Drives[0].Head, &l.Drives[2].Head, &l.Model.Slots, &l.Model.Drives, &l.Model.DriveAt, &l.Model.PortAt, &l.Model.Move}[i] = n
			if library.Valid(l) {
				t.Errorf("number %d is %d: valid", i, n)
			}
			for _, o := range operations(start(), "AX") {
				try(t, o, l)
			}
		}
		for i := range 5 {
			l := start()
			*[]*int{&l.Drives[1].Loads, &l.Drives[1].Passes, &l.Drives[1].Since, &l.Cartridges[0].Loads, &l.Cartridges[3].Geometry.Length}[i] = n
			if want := i < 4 && n >= 0 && n <= 1<<50; library.Valid(l) != want {
				t.Errorf("counter %d is %d: %t", i, n, !want)
			}
		}
	}
}
