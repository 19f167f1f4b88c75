package drive_test

import (
	"testing"

	"tapearchive/api"
	"tapearchive/drive"
)

// P11.1: what Load returns, for a model of 0, of 1 and of 1,000,000
func TestLoad(t *testing.T) {
	for _, time := range []int{0, 1, 40, 999999, 1000000} {
		m := api.DriveModel{Load: time, Unload: 3, Clean: 4}
		for _, letters := range []string{"", "a", "amZM"} {
			for _, flags := range []api.Cartridge{{}, {Locked: true}, {WriteOnce: true}, {Locked: true, WriteOnce: true}} {
				c := holding(geometry(2, 3), letters)
				c.Locked, c.WriteOnce = flags.Locked, flags.WriteOnce
				want := c
				want.Loads = 13
				got := try(t, load(), m, empty(), c)
				if !got.equal(result{d: api.Drive{State: api.DriveReady, Barcode: "TAPE01", Loads: 56, Passes: 70007, Since: 808}, c: want, time: time}) {
					t.Errorf("%s", got)
				}
			}
		}
	}
	for _, d := range []api.Drive{{}, {Since: 5}, {Passes: 1 << 50}, {Loads: 1<<50 - 1}} {
		got := try(t, load(), model(), d, holding(chapter(), "am"))
		if got.e != api.OK || got.d.State != api.DriveReady || got.d.Head != 0 || got.d.Loads != d.Loads+1 || got.d.Passes != d.Passes || got.d.Since != d.Since {
			t.Errorf("%+v: %s", d, got)
		}
	}
}

// P11.1: a worn cartridge is loaded, and one with Bad blocks
func TestLoadWorn(t *testing.T) {
	m := model()
	m.CartridgeLife = 1
	c := holding(chapter(), "AMZ")
	if got := try(t, load(), m, empty(), c); got.e != api.OK || !drive.Worn(m, c) || got.c.Passes != 3456 {
		t.Errorf("%s", got)
	}
}

// P11.1, P11.6: Since and CleanEvery of 0, equal, one less and one more
func TestDue(t *testing.T) {
	for _, x := range []struct {
		every, since int
		due          bool
	}{
		{0, 0, false}, {0, 1, false}, {0, 1 << 50, false},
		{1, 0, false}, {1, 1, true}, {1, 2, true},
		{1000, 999, false}, {1000, 1000, true}, {1000, 1001, true}, {1000, 0, false}, {1000, 1 << 50, true},
		{1 << 50, 1<<50 - 1, false}, {1 << 50, 1 << 50, true}, {1<<50 - 1, 1 << 50, true}, {1 << 50, 0, false},
	} {
		m := model()
		m.CleanEvery = x.every
		for _, state := range []int{api.DriveEmpty, api.DriveReady, api.DriveFailed, -1, 3} {
			for _, loads := range []int{0, -1, 1 << 60} {
				d := api.Drive{State: state, Barcode: "A", Since: x.since, Loads: loads, Passes: 1 << 50}
				if got := drive.Due(m, d); got != x.due {
					t.Errorf("%+v, %+v: Due %t", m, d, got)
				}
			}
		}
		want := api.OK
		if x.due {
			want = api.ErrState
		}
		d := api.Drive{Since: x.since}
		if got := try(t, load(), m, d, holding(chapter(), "am")); got.e != want {
			t.Errorf("%+v, Since %d: %s", m, x.since, got)
		}
		if got := try(t, clean(), m, d, api.Cartridge{}); got.e != api.OK || got.d.Since != 0 {
			t.Errorf("%+v, Since %d: %s", m, x.since, got)
		} else if got := try(t, load(), m, got.d, holding(chapter(), "am")); got.e != api.OK {
			t.Errorf("%+v, Since %d, after it has been cleaned: %s", m, x.since, got)
		}
		d = ready(1)
		d.Since = x.since
		for _, o := range []operation{unload(), seek(0), read(1), write(blocks("a"))} { // which do not ask whether the drive is due
			if got := try(t, o, m, d, holding(chapter(), "am")); got.e != api.OK {
				t.Errorf("%+v, Since %d: %s: %s", m, x.since, o.name, got)
			}
		}
	}
}

// P11.6: Due and Worn of all arguments, also those that are not valid
func TestDueAndWornOfAllArguments(t *testing.T) {
	numbers := append(extremes(), -2, -1, 0, 1, 2, 1<<50-1, 1<<50)
	for _, limit := range numbers {
		for _, n := range numbers {
			for _, other := range []int{-1, 0, 1 << 60} {
				want := limit > 0 && n >= limit
				m := api.DriveModel{Load: other, Unload: other, Clean: other, CleanEvery: limit, CartridgeLife: other}
				d := api.Drive{State: other, Head: other, Loads: other, Passes: other, Since: n}
				if got := drive.Due(m, d); got != want {
					t.Errorf("%+v, %+v: Due %t", m, d, got)
				}
				m.CleanEvery, m.CartridgeLife = other, limit
				c := api.Cartridge{Barcode: "none", Epoch: other, Loads: other, Passes: n}
				if got := drive.Worn(m, c); got != want {
					t.Errorf("%+v, %s: Worn %t", m, name(c), got)
				}
			}
		}
	}
	if drive.Due(api.DriveModel{}, api.Drive{}) || drive.Worn(api.DriveModel{}, api.Cartridge{}) {
		t.Error("zero values are due, or worn")
	}
}

// P11.6: Clean, for a model of 0, of 1 and of 1,000,000, and a drive that is due or not
func TestClean(t *testing.T) {
	for _, time := range []int{0, 1, 22, 999999, 1000000} {
		for _, every := range []int{0, 1, 807, 808, 809, 1 << 50} {
			for _, since := range []int{0, 1, 808, 1 << 50} {
				m := api.DriveModel{Load: 3, Unload: 4, Clean: time, CleanEvery: every}
				d := empty()
				d.Since = since
				got, n, e := drive.Clean(m, d)
				if got != (api.Drive{Loads: 55, Passes: 70007}) || n != time || e != api.OK {
					t.Errorf("%+v, %+v: %+v, %d, %d", m, d, got, n, e)
				}
				if drive.Due(m, got) {
					t.Errorf("%+v, %+v: due after it has been cleaned", m, got)
				}
				try(t, clean(), m, d, api.Cartridge{})
			}
		}
	}
	for _, x := range []struct {
		d api.Drive
		e api.Errno
	}{{ready(0), api.ErrBusy}, {ready(4096), api.ErrBusy}, {api.Drive{State: api.DriveReady}, api.ErrBusy}, {broken(0), api.ErrFault}, {api.Drive{State: api.DriveFailed}, api.ErrFault}, {api.Drive{Barcode: "A"}, api.ErrInvalid}} {
		expect(t, clean(), model(), x.d, api.Cartridge{}, x.e)
	}
}
