package drive_test

import (
	"math"
	"slices"
	"strings"
	"testing"

	"tapearchive/api"
	"tapearchive/drive"
)

// modelField is a field of a model, and its greatest value.
type modelField struct {
	name string
	of   func(m *api.DriveModel) *int
	most int
}

// modelFields are the fields of a model.
func modelFields() []modelField {
	return []modelField{
		{"Load", func(m *api.DriveModel) *int { return &m.Load }, 1000000},
		{"Unload", func(m *api.DriveModel) *int { return &m.Unload }, 1000000},
		{"Clean", func(m *api.DriveModel) *int { return &m.Clean }, 1000000},
		{"CleanEvery", func(m *api.DriveModel) *int { return &m.CleanEvery }, 1 << 50},
		{"CartridgeLife", func(m *api.DriveModel) *int { return &m.CartridgeLife }, 1 << 50},
	}
}

// driveField is a number of a drive, and its greatest value.
type driveField struct {
	name string
	of   func(d *api.Drive) *int
	most int
}

// driveFields are the numbers of a drive, but its State.
func driveFields() []driveField {
	return []driveField{
		{"Head", func(d *api.Drive) *int { return &d.Head }, 4096},
		{"Loads", func(d *api.Drive) *int { return &d.Loads }, 1 << 50},
		{"Passes", func(d *api.Drive) *int { return &d.Passes }, 1 << 50},
		{"Since", func(d *api.Drive) *int { return &d.Since }, 1 << 50},
	}
}

// around are the values in which a number from 0 to most is tried.
func around(most int) []int {
	return append(extremes(), -most-1, -most, -2, -1, 0, 1, most/2, most-1, most, most+1, most+2, 2*most, 2*most+1)
}

// invalidModels returns models that are not valid, each by one condition alone.
func invalidModels() []api.DriveModel {
	var l []api.DriveModel
	for _, f := range modelFields() {
		for _, n := range around(f.most) {
			if m := model(); n < 0 || n > f.most {
				*f.of(&m) = n
				l = append(l, m)
			}
		}
	}
	return l
}

// invalidDrives returns drives that are not valid, each by one condition alone.
func invalidDrives() []api.Drive {
	var l []api.Drive
	for _, f := range driveFields() {
		for _, n := range around(f.most) {
			for _, d := range []api.Drive{empty(), ready(1), broken(1)} {
				if n < 0 || n > f.most || f.name == "Head" && n > 0 && d.State == api.DriveEmpty {
					*f.of(&d) = n
					l = append(l, d)
				}
			}
		}
	}
	for _, n := range append(extremes(), -4, -3, -2, -1, 3, 4, 5, 256, 257, 258) {
		for _, d := range []api.Drive{empty(), ready(0), ready(1)} {
			d.State = n
			l = append(l, d)
		}
	}
	for _, s := range []string{"A", "TAPE01", " ", "\x00", "no barcode"} {
		d := empty()
		d.Barcode = s
		l = append(l, d)
	}
	return append(l, api.Drive{Barcode: "TAPE01", Head: 1}, api.Drive{Head: 4096}, api.Drive{Head: 4097})
}

// invalidCartridges returns cartridges that are not valid, each by one condition alone.
func invalidCartridges() []api.Cartridge {
	var l []api.Cartridge
	add := func(change func(c *api.Cartridge)) {
		c := holding(geometry(2, 3), "ambz")
		change(&c)
		l = append(l, c)
	}
	for _, g := range []api.Geometry{{}, {Wraps: 0, Length: 6}, {Wraps: 33, Length: 1}, {Wraps: -1, Length: -6}, {Wraps: 1, Length: 0}, {Wraps: 1, Length: 4097}, {Wraps: 32, Length: 129}, {Wraps: 1, Length: 6, Step: -1}, {Wraps: 1, Length: 6, Turn: 1000001}, {Wraps: 1, Length: 6, Jump: math.MinInt}, {Wraps: 1, Length: 6, Stream: math.MaxInt}, {Wraps: math.MaxInt, Length: math.MaxInt}, {Wraps: 1, Length: 3}} {
		add(func(c *api.Cartridge) { c.Geometry = g })
	}
	for _, b := range []api.Block{{}, {Bad: true}, {Data: []byte{}}, {Data: make([]byte, 65)}, {Mark: true, Data: []byte{1}}} {
		for at := range 5 {
			add(func(c *api.Cartridge) { c.Blocks = slices.Insert(c.Blocks, at, b) })
		}
	}
	for _, n := range []int{math.MinInt, -1 << 50, -1, 1<<50 + 1, math.MaxInt} {
		add(func(c *api.Cartridge) { c.Epoch = n })
		add(func(c *api.Cartridge) { c.Loads = n })
		add(func(c *api.Cartridge) { c.Passes = n })
	}
	add(func(c *api.Cartridge) { c.Blocks = blocks("mmmmmmm") })
	return l
}

// checkInvalid checks that all functions treat their arguments as not valid, whatever else is wrong with them.
func checkInvalid(t *testing.T, m api.DriveModel, d api.Drive, c api.Cartridge) {
	t.Helper()
	if isModel(m) && isDrive(d) && isCartridge(c) {
		t.Fatalf("%+v, %+v, %s: valid", m, d, name(c))
	}
	for _, o := range operations(len(c.Blocks)) {
		if o.name != "Clean" || !isModel(m) || !isDrive(d) {
			expect(t, o, m, d, c, api.ErrInvalid)
		}
	}
}

// Models that are not valid, by each condition alone, with every function, and drives of each State
func TestInvalidModels(t *testing.T) {
	for _, m := range invalidModels() {
		for _, d := range []api.Drive{empty(), ready(0), ready(2), broken(2), ready(9)} {
			checkInvalid(t, m, d, holding(geometry(2, 3), "amzm"))
		}
	}
}

// Drives that are not valid, by each condition alone, with every function
func TestInvalidDrives(t *testing.T) {
	for _, d := range invalidDrives() {
		for _, c := range []api.Cartridge{holding(geometry(2, 3), "amzm"), holding(geometry(1, 4096), strings.Repeat("m", 4096))} {
			for _, o := range []operation{load(), unload(), clean(), seek(0), seek(1), read(1), write(blocks("a")), write(nil)} {
				expect(t, o, model(), d, c, api.ErrInvalid)
			}
		}
		checkInvalid(t, model(), d, holding(geometry(2, 3), "amzm"))
	}
}

// Cartridges that are not valid, by each condition alone, with every function
func TestInvalidCartridges(t *testing.T) {
	for _, c := range invalidCartridges() {
		for _, d := range []api.Drive{empty(), ready(0), ready(2), broken(0), ready(4096)} {
			checkInvalid(t, model(), d, c)
		}
	}
	for _, s := range []string{"", "a", "TAPE-1", "ABCDEFGHIJKLMNOPQRSTUVWXY", "\xff"} { // also where the drive holds something of this name
		c := holding(geometry(2, 3), "amzm")
		c.Barcode = s
		d := ready(1)
		d.Barcode = s
		checkInvalid(t, model(), empty(), c)
		checkInvalid(t, model(), d, c)
	}
	checkInvalid(t, model(), empty(), api.Cartridge{})
	checkInvalid(t, model(), ready(0), api.Cartridge{})
}

// Each field of a model from its least to its greatest value, and one more and one less, with every function
func TestLimitsOfModels(t *testing.T) {
	c := holding(geometry(2, 3), "amzm")
	c.Passes = 0
	fresh := api.Drive{}
	held := api.Drive{State: api.DriveReady, Barcode: "TAPE01", Head: 1}
	for _, f := range modelFields() {
		for _, n := range around(f.most) {
			m := model()
			*f.of(&m) = n
			for _, o := range operations(4) {
				try(t, o, m, fresh, c)
				try(t, o, m, held, c)
			}
			want := api.OK
			if n < 0 || n > f.most {
				want = api.ErrInvalid
			}
			for _, o := range []operation{load(), clean()} {
				if got := o.do(m, fresh, c); got.e != want {
					t.Errorf("%s %d: %s: %s", f.name, n, o.name, got)
				}
			}
			for _, o := range []operation{unload(), seek(2), read(2), write(blocks("a"))} {
				if got := o.do(m, held, c); got.e != want {
					t.Errorf("%s %d: %s: %s", f.name, n, o.name, got)
				}
			}
		}
	}
}

// Each number of a drive from its least to its greatest value, and one more and one less, with every function, and each State
func TestLimitsOfDrives(t *testing.T) {
	c := holding(geometry(32, 128), strings.Repeat("m", 4096))
	for _, f := range driveFields() {
		for _, n := range around(f.most) {
			for _, d := range []api.Drive{empty(), ready(4000), broken(3)} {
				*f.of(&d) = n
				for _, o := range []operation{load(), unload(), clean(), seek(4), read(1), write(blocks("a"))} {
					try(t, o, model(), d, c)
				}
			}
		}
	}
	for _, d := range []api.Drive{empty(), ready(4), broken(4)} {
		d.Loads, d.Passes, d.Since = 1<<50, 1<<50, 1<<50
		for _, o := range operations(6) {
			try(t, o, model(), d, holding(geometry(2, 3), "amzmb"))
		}
	}
}

// Drives of each State, and of States that are none, with every function
func TestStates(t *testing.T) {
	c := holding(geometry(2, 3), "amzmb")
	for _, n := range append(extremes(), -2, -1, 0, 1, 2, 3, 4) {
		for _, barcode := range []string{"", "TAPE01", "TAPE02"} {
			for _, head := range []int{0, 1, 5, 6} {
				d := api.Drive{State: n, Barcode: barcode, Head: head}
				for _, o := range operations(5) {
					try(t, o, model(), d, c)
				}
			}
		}
	}
	for _, x := range []struct {
		d           api.Drive
		load, clean api.Errno
		others      api.Errno
	}{
		{api.Drive{}, api.OK, api.OK, api.ErrState},
		{api.Drive{State: api.DriveReady, Barcode: "TAPE01"}, api.ErrBusy, api.ErrBusy, api.OK},
		{api.Drive{State: api.DriveReady}, api.ErrBusy, api.ErrBusy, api.ErrNotFound},
		{api.Drive{State: api.DriveFailed, Barcode: "TAPE01"}, api.ErrFault, api.ErrFault, api.ErrFault},
		{api.Drive{State: api.DriveFailed}, api.ErrFault, api.ErrFault, api.ErrFault},
		{api.Drive{State: api.DriveFailed, Head: 4096}, api.ErrFault, api.ErrFault, api.ErrFault},
		{api.Drive{State: 3}, api.ErrInvalid, api.ErrInvalid, api.ErrInvalid},
		{api.Drive{State: -1}, api.ErrInvalid, api.ErrInvalid, api.ErrInvalid},
		{api.Drive{Barcode: "TAPE01"}, api.ErrInvalid, api.ErrInvalid, api.ErrInvalid},
		{api.Drive{Head: 1}, api.ErrInvalid, api.ErrInvalid, api.ErrInvalid},
	} {
		if got := load().do(model(), x.d, c); got.e != x.load {
			t.Errorf("%+v: Load: %s", x.d, got)
		}
		if got := clean().do(model(), x.d, c); got.e != x.clean {
			t.Errorf("%+v: Clean: %s", x.d, got)
		}
		for _, o := range []operation{unload(), seek(2), read(2), write(blocks("a"))} {
			if got := o.do(model(), x.d, c); got.e != x.others {
				t.Errorf("%+v: %s: %s", x.d, o.name, got)
			}
		}
	}
}

// Head 0, at, and behind the end of data, and MaxBlocks and one more, with every function
func TestHeads(t *testing.T) {
	for _, g := range []api.Geometry{geometry(1, 1), geometry(2, 3), geometry(32, 128), geometry(1, 4096)} {
		capacity := g.Wraps * g.Length
		for _, n := range []int{0, 1, capacity / 2, capacity - 1, capacity} {
			c := holding(g, strings.Repeat("m", n))
			for _, head := range append(extremes(), -1, 0, 1, n-1, n, n+1, capacity, capacity+1, 4095, 4096, 4097) {
				want := api.OK
				if head < 0 || head > n {
					want = api.ErrInvalid
				}
				for _, o := range []operation{unload(), seek(head), seek(n), read(1), read(n - head), write(nil), write(blocks("a"))} {
					got := try(t, o, model(), ready(head), c)
					if want == api.ErrInvalid && got.e != want || o.name == "Unload" && got.e != want {
						t.Errorf("the head %d of %d blocks: %s: %s", head, n, o.name, got)
					}
				}
			}
		}
	}
}

// A Barcode that is not the cartridge's
func TestBarcodes(t *testing.T) {
	c := holding(geometry(2, 3), "amzm")
	for _, s := range []string{"", "TAPE0", "TAPE011", "TAPE02", "UAPE01", "tape01", "TAPE01 ", "\x00", "TAPE01\x00", strings.Repeat("A", 25), strings.Repeat("TAPE01", 1000), "no barcode"} {
		d := ready(2)
		d.Barcode = s
		for _, o := range []operation{unload(), seek(0), seek(-1), read(1), read(9), write(nil), write(blocks("a"))} {
			expect(t, o, model(), d, c, api.ErrNotFound)
		}
		d.Head = 5
		expect(t, unload(), model(), d, c, api.ErrNotFound)
	}
	for _, s := range []string{"A", "0", strings.Repeat("Z", 24), "TAPE01"} {
		d := ready(2)
		d.Barcode, c.Barcode = s, s
		for _, o := range []operation{unload(), seek(0), read(1), write(blocks("a"))} {
			if got := try(t, o, model(), d, c); got.e != api.OK || got.c.Barcode != s {
				t.Errorf("%q: %s: %s", s, o.name, got)
			}
		}
		if got := try(t, load(), model(), empty(), c); got.d.Barcode != s || got.c.Barcode != s {
			t.Errorf("%q: %s", s, got)
		}
	}
}

// R1: the least and the greatest ints in all fields at once
func TestExtremeArguments(t *testing.T) {
	for _, n := range append(extremes(), -1, 0, 1) {
		for _, k := range append(extremes(), -1, 0, 1) {
			m := api.DriveModel{Load: n, Unload: k, Clean: n, CleanEvery: k, CartridgeLife: n}
			d := api.Drive{State: k, Head: n, Loads: k, Passes: n, Since: k}
			c := api.Cartridge{Barcode: "A", Geometry: api.Geometry{Wraps: n, Length: k, Step: n, Turn: k, Jump: n, Stream: k}, Blocks: blocks("am"), Epoch: k, Loads: n, Passes: k}
			for _, o := range []operation{load(), unload(), clean(), seek(n), read(k), write(blocks("a"))} {
				try(t, o, m, d, c)
				try(t, o, model(), ready(1), c)
				try(t, o, m, ready(1), holding(chapter(), "am"))
				try(t, o, model(), d, holding(chapter(), "am"))
			}
			if got := drive.Due(m, d); got != (k > 0) {
				t.Errorf("%+v, %+v: Due %t", m, d, got)
			}
			if got := drive.Worn(m, c); got != (n > 0 && k >= n) {
				t.Errorf("%+v, %d passes: Worn %t", m, c.Passes, got)
			}
		}
	}
}
