package library_test

import (
	"testing"

	"tapearchive/api"
)

// P13.5: the cartridge comes into the first empty slot; the time is that of Unload, Pick and Put.
func TestDismount(t *testing.T) {
	for _, x := range []struct {
		text string
		slot int
	}{{"--- - - A-", 0}, {"B-- - - A-", 1}, {"BC- - - A-", 2}, {"-C- - - A-", 0}, {"B-C - - A-", 1}, {"-BC P - AD", 0}, {"BC- P - Ad", 2}} {
		l := lib(x.text)
		l.Drives[0].Head = 0
		got := succeed(t, dismount(0), l)
		if want := 300100 + 4000 + 50 + (5-x.slot)*1000 + 3; got.time != want {
			t.Errorf("%s, want %d", got, want)
		}
		if d := got.l.Drives[0]; d != (api.Drive{Loads: 5, Passes: 60000, Since: 8000}) || got.l.Robot.Slots[x.slot] != "A" || got.l.Robot.At != x.slot {
			t.Error(got)
		}
	}
}

// P13.5: the head goes back from each block.
func TestDismountHeads(t *testing.T) {
	for head, x := range []struct{ time, passes int }{{0, 0}, {11 + 40009, 334}, {22 + 40009, 667}, {22 + 107 + 40009, 667}, {11 + 107 + 40009, 334}, {107 + 40009, 0}} {
		l := lib("--- - - A-")
		l.Drives[0].Head = head
		got := succeed(t, dismount(0), l)
		if got.time != x.time+300100+4000+50+5000+3 || got.l.Drives[0].Passes != 60000+x.passes || got.l.Drives[0].Since != 8000+x.passes || got.l.Cartridges[0].Passes != x.passes {
			t.Errorf("head %d: %s", head, got)
		}
	}
}

// P13.5: a drive that is due is not cleaned, and gives out its cartridge as others do.
func TestDismountDue(t *testing.T) {
	l := lib("--- - - -A")
	l.Drives[1].Since = 1 << 50
	if got := succeed(t, dismount(1), l); got.l.Drives[1].Since != 1<<50 || got.l.Drives[1].State != 0 {
		t.Error(got)
	}
}

// P13.5: the numbers of drives
func TestDismountDrives(t *testing.T) {
	for n := 1; n <= 8; n++ {
		text := "-------- - - ABCDEFGH"[:13+n]
		for number := range n {
			if got := succeed(t, dismount(number), lib(text)); got.l.Robot.Slots[0] != text[13+number:14+number] || got.l.Drives[number].Barcode != "" {
				t.Error(got)
			}
		}
		for _, number := range append(extremes(), -1, n, n+1) {
			expect(t, dismount(number), lib(text), api.ErrRange)
			expect(t, dismount(number), failed(lib(text)), api.ErrRange)
		}
	}
}

// P13.5: drives of each state, robots out of order, a hand that is not empty, and no empty slot
func TestDismountErrors(t *testing.T) {
	for _, x := range []struct {
		text string
		e    api.Errno
	}{
		{"--- - - --", api.ErrState}, {"ABC - H --", api.ErrState}, {"--- - - !-", api.ErrFault}, {"--- - - a-", api.ErrFault}, {"BCD - H a-", api.ErrFault},
		{"--- - H A-", api.ErrBusy}, {"BCD - H A-", api.ErrBusy}, {"BCD - - A-", api.ErrFull}, {"BCD P - AE", api.ErrFull},
	} {
		expect(t, dismount(0), lib(x.text), x.e)
		expect(t, dismount(0), failed(lib(x.text)), api.ErrFault)
	}
	expect(t, dismount(0), failed(lib("--- - - A-")), api.ErrFault)
	succeed(t, dismount(0), lib("--- P - A!"))
}
