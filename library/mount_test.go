package library_test

import (
	"testing"

	"tapearchive/api"
)

// Robot positions of the libraries with three slots: the slots are at 0 to 2, the drives from 5 on, and the robot is at 1.

// P13.4: into an empty drive, from a slot and from the port; the time is that of Pick, Put and Load.
func TestMount(t *testing.T) {
	l := lib("A-B P - --")
	got := succeed(t, mount("A", 0), l) // 1 to the slot 0, 5 to the drive 0
	if got.time != 1000+50+5000+3+900001 || got.l.Robot.At != 5 || got.l.Robot.Slots[0] != "" || got.l.Drives[0].Barcode != "A" || got.l.Drives[0].State != 1 {
		t.Error(got)
	}
	got = succeed(t, mount("B", 0), l)
	if got.time != 1000+50+3000+3+900001 || got.l.Robot.Slots[2] != "" || got.l.Drives[0].Loads != 6 || got.l.Cartridges[1].Loads != 22 {
		t.Error(got)
	}
	got = succeed(t, mount("P", 0), l) // the port is at 10
	if got.time != 9000+50+5000+3+900001 || got.l.Robot.Port != "" || got.l.Drives[0].Barcode != "P" {
		t.Error(got)
	}
}

// P13.4: a drive that is due is cleaned; one that is not, or in a model that never asks for it, is not.
func TestMountCleans(t *testing.T) {
	for _, x := range []struct{ every, since, time, left int }{
		{8500, 8500, 700020, 0}, {8500, 8501, 700020, 0}, {8500, 8499, 0, 8499}, {8500, 0, 0, 0}, {8500, 1 << 50, 700020, 0},
		{1, 1, 700020, 0}, {1, 0, 0, 0}, {0, 0, 0, 0}, {0, 1 << 50, 0, 1 << 50}, {1 << 50, 1<<50 - 1, 0, 1<<50 - 1}, {1 << 50, 1 << 50, 700020, 0},
	} {
		l := lib("A-- - - --")
		l.Drive.CleanEvery, l.Drives[0].Since = x.every, x.since
		got := succeed(t, mount("A", 0), l)
		if got.time != x.time+1000+50+5000+3+900001 || got.l.Drives[0].Since != x.left {
			t.Errorf("%+v: %s", x, got)
		}
	}
}

// P13.4: a drive that holds another cartridge is emptied first, into the slot that is empty before; it is cleaned if the motion of its head has made it due.
func TestMountEmpties(t *testing.T) {
	l := lib("-B- - - A")
	l.Drives[0].Head = 0
	l.Drives[0].Since = 8499
	got := succeed(t, mount("B", 0), l)
	// Unload; 4 to the drive at 5, 5 to the slot 0; 1 to the slot 1, 4 to the drive
	if want := 300100 + 4000 + 50 + 5000 + 3 + 1000 + 50 + 4000 + 3 + 900001; got.time != want {
		t.Errorf("%s, want %d", got, want)
	}
	if got.l.Robot.Slots[0] != "A" || got.l.Robot.Slots[1] != "" || got.l.Drives[0].Barcode != "B" || got.l.Drives[0].Since != 8499 || got.l.Cartridges[0].Loads != 20 {
		t.Error(got)
	}
	// From block 4 at the position 1 of the second wrap back to block 0: a step, a wrap and a turn, and 334 parts of a pass
	l.Drives[0].Head = 4
	got = succeed(t, mount("B", 0), l)
	if want := 11 + 107 + 40009 + 300100 + 9000 + 53 + 700020 + 5000 + 53 + 900001; got.time != want {
		t.Errorf("%s, want %d", got, want)
	}
	if got.l.Drives[0].Since != 0 || got.l.Drives[0].Passes != 60334 || got.l.Cartridges[0].Passes != 334 || got.l.Drives[0].Head != 0 {
		t.Error(got)
	}
	// The slot that the cartridge leaves is not empty yet: another one is taken, also if it is behind.
	got = succeed(t, mount("A", 0), lib("AB- - - C"))
	if got.l.Robot.Slots[0] != "" || got.l.Robot.Slots[2] != "C" {
		t.Error(got)
	}
	got = succeed(t, mount("P", 1), lib("A-- P - -C"))
	if got.l.Robot.Slots[1] != "C" || got.l.Robot.Port != "" {
		t.Error(got)
	}
}

// P13.4: the drive holds the cartridge already: nothing happens, also with a robot that is out of order, a full hand, no empty slot, and a drive that is due.
func TestMountAgain(t *testing.T) {
	for _, text := range []string{"--- - - A-", "BCD - - A-", "--- P H A-", "BCD E F AG"} {
		for _, l := range []api.Library{lib(text), failed(lib(text))} {
			for head := range 6 {
				l.Drives[0].Head, l.Drives[0].Since = head, 9999999
				if got := succeed(t, mount("A", 0), l); got.time != 0 || !same(got.l, l) {
					t.Errorf("%s%s", name(l), got)
				}
			}
		}
	}
	expect(t, mount("A", 0), lib("--- - - a-"), api.ErrFault)
}

// P13.4: the numbers of drives
func TestMountDrives(t *testing.T) {
	for n := 1; n <= 8; n++ {
		drives := "--------"[:n]
		l := lib("A-- - - " + drives)
		for number := range n {
			if got := succeed(t, mount("A", number), l); got.l.Drives[number].Barcode != "A" || got.l.Robot.At != 5+number {
				t.Error(got)
			}
		}
		for _, number := range append(extremes(), -1, n, n+1, 64) {
			expect(t, mount("A", number), l, api.ErrRange)
			expect(t, mount("X", number), l, api.ErrRange)
			expect(t, mount("", number), failed(l), api.ErrRange)
		}
	}
}

// P13.4: barcodes that are none, and of cartridges that are not in the library
func TestMountNotFound(t *testing.T) {
	for _, text := range []string{"A-- - - --", "A-- P H BC", "A-- - - b!", "--- - - --", "ABC D E FG"} {
		for _, barcode := range []string{"", "X", "a", "AA", "A\x00", "\xff"} {
			expect(t, mount(barcode, 0), lib(text), api.ErrNotFound)
			expect(t, mount(barcode, 1), failed(lib(text)), api.ErrNotFound)
		}
	}
}

// P13.4: drives and robots that are out of order
func TestMountFault(t *testing.T) {
	for _, text := range []string{"A-- - - -!", "A-- - - -b", "--- A - B!", "--- - - Ac", "--- - A -!", "ACD - - Bf"} {
		expect(t, mount("A", 1), lib(text), api.ErrFault)
		expect(t, mount("A", 1), failed(lib(text)), api.ErrFault)
	}
	for _, text := range []string{"A-- - - --", "A-- - - -B", "--- A - --", "--- - A --", "--- - - A-", "ACD - - BE"} {
		expect(t, mount("A", 1), failed(lib(text)), api.ErrFault)
	}
}

// P13.4: a cartridge that is in another drive of each state or in the hand, and a hand that is not empty
func TestMountBusy(t *testing.T) {
	for _, text := range []string{"--- - - A-", "--- - - AB", "BCD - - AE", "--- - - a-", "B-- - - aC", "--- - A --", "--- - A -B", "B-- - A -C", "A-- - H --", "A-- - H -B", "--- A H --", "ABC - H -D", "--- - H A-"} {
		expect(t, mount("A", 1), lib(text), api.ErrBusy)
	}
}

// P13.4: no empty slot for the cartridge that the drive holds, also if the other one is in the port, or leaves a slot itself
func TestMountFull(t *testing.T) {
	for _, text := range []string{"ABC - - D-", "BCA - - D-", "BCD A - E-", "BCD A - EF"} {
		expect(t, mount("A", 0), lib(text), api.ErrFull)
	}
	succeed(t, mount("A", 0), lib("ABC - - --"))
	succeed(t, mount("A", 1), lib("ABC - - D-"))
	succeed(t, mount("A", 0), lib("BCD A - --"))
	succeed(t, mount("A", 0), lib("BC- A - D-"))
	one := lib("A - - B")
	expect(t, mount("A", 0), one, api.ErrFull)
	succeed(t, mount("A", 0), lib("A - - -"))
	succeed(t, mount("A", 0), lib("- A - B"))
}

// P13.4: cartridges that are worn, locked or write-once are mounted as others, and counters end at MaxNumber.
func TestMountAny(t *testing.T) {
	for _, barcode := range []string{"C", "D", "E"} {
		succeed(t, mount(barcode, 0), lib("CDE - - --"))
		succeed(t, mount(barcode, 0), lib("CDE- - - A-"))
	}
	l := lib("A-- - - -B")
	for i := range l.Drives {
		l.Drives[i].Loads, l.Drives[i].Passes, l.Drives[i].Since = 1<<50, 1<<50, 1<<50-1
		l.Cartridges[i].Loads, l.Cartridges[i].Passes = 1<<50, 1<<50-1
	}
	for number := range l.Drives {
		got := succeed(t, mount("A", number), l)
		if got.l.Drives[number].Loads != 1<<50 || got.l.Drives[number].Since != 0 || got.l.Cartridges[0].Loads != 1<<50 || got.l.Cartridges[1].Passes != 1<<50-1+number {
			t.Error(got)
		}
	}
}
