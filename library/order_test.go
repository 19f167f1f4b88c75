package library_test

import (
	"strings"
	"testing"

	"tapearchive/api"
)

// attempt is a call of a function, and the library as a text.
type attempt struct {
	text    []byte
	number  int
	barcode string
	span    api.Span
	more    string
	after   []func(l *api.Library) // what is changed in the library that has this text
}

// build returns the library of a call.
func (a attempt) build() api.Library {
	l := lib(string(a.text))
	for _, change := range a.after {
		change(&l)
	}
	return l
}

// trap puts a fault into a call; of those of one kind, other than "", only one is put.
type trap struct {
	name, kind string
	put        func(a *attempt)
	e          api.Errno
}

// checkOrder checks a function with every set of these faults, which are in the order of their errors.
func checkOrder(t *testing.T, start func() attempt, traps []trap, do func(a attempt) operation) {
	t.Helper()
	for set := range 1 << len(traps) {
		a, want, names, kinds, together := start(), api.OK, []string{}, map[string]bool{}, true
		for i, f := range traps {
			if set>>i&1 == 0 {
				continue
			}
			f.put(&a)
			names = append(names, f.name)
			together = together && !kinds[f.kind]
			kinds[f.kind] = f.kind != ""
			if want == api.OK {
				want = f.e
			}
		}
		if !together {
			continue
		}
		o, l := do(a), a.build()
		if got := try(t, o, l); got.e != want || want != api.OK && want != api.ErrMedia && !got.equal(result{e: want}) {
			t.Errorf("%s%s with the faults %s: %s, want the error %d", name(l), o.name, strings.Join(names, ", "), got, want)
		}
	}
}

// letter returns a fault that puts a letter at a place of the text.
func letter(at int, letter byte) func(a *attempt) {
	return func(a *attempt) { a.text[at] = letter }
}

// changed returns a fault that changes the library that has the text.
func changed(f func(l *api.Library)) func(a *attempt) {
	return func(a *attempt) { a.after = append(a.after, f) }
}

// firstTraps are the faults that come first in all functions of drives. The drive is at the place 8 of the text.
func firstTraps() []trap {
	return []trap{
		{"model", "", changed(func(l *api.Library) { l.Drive.Load = -1 }), api.ErrInvalid},
		{"place", "", changed(func(l *api.Library) { l.Robot.At = -1 }), api.ErrInvalid},
		{"cartridge", "", changed(func(l *api.Library) { l.Cartridges[0].Loads = -1 }), api.ErrInvalid},
		{"drive -1", "number", func(a *attempt) { a.number = -1 }, api.ErrRange},
		{"drive 2", "number", func(a *attempt) { a.number = 2 }, api.ErrRange},
	}
}

// driveFails lets drive 0 fail.
func driveFails(l *api.Library) { l.Drives[0].State = api.DriveFailed }

// robotFails lets the robot fail.
func robotFails(l *api.Library) { l.Robot.Failed = true }

// fill fills the slots of a text that are empty.
func fill(a *attempt) {
	for i, letter := range a.text[:3] {
		if letter == '-' {
			a.text[i] = "VWX"[i]
		}
	}
}

// P13.4: every set of the errors of Mount together, for a drive that is empty and one that holds another cartridge
func TestOrderOfErrorsOfMount(t *testing.T) {
	for _, from := range []int{0, 2, 4} {
		for _, held := range []byte("-B") {
			start := func() attempt {
				a := attempt{text: []byte("--- - - --"), barcode: "A"}
				a.text[from], a.text[8] = 'A', held
				return a
			}
			moved := func(to int) func(a *attempt) {
				return func(a *attempt) { a.text[from], a.text[to] = '-', 'A' }
			}
			full := api.OK
			if held == 'B' {
				full = api.ErrFull
			}
			checkOrder(t, start, append(firstTraps(),
				trap{"no such cartridge", "barcode", func(a *attempt) { a.barcode = "Y" }, api.ErrNotFound},
				trap{"no barcode", "barcode", func(a *attempt) { a.barcode = "" }, api.ErrNotFound},
				trap{"drive failed", "", changed(driveFails), api.ErrFault},
				trap{"robot failed", "", changed(robotFails), api.ErrFault},
				trap{"in another drive", "where", moved(9), api.ErrBusy},
				trap{"in the hand", "where", moved(6), api.ErrBusy},
				trap{"hand", "", func(a *attempt) {
					if a.text[6] == '-' {
						a.text[6] = 'H'
					}
				}, api.ErrBusy},
				trap{"no empty slot", "", fill, full},
			), func(a attempt) operation { return mount(a.barcode, a.number) })
		}
	}
}

// P13.4: every set of the errors of Mount of a cartridge that the drive holds: of the robot, the hand and the slots, there are none.
func TestOrderOfErrorsOfMountAgain(t *testing.T) {
	start := func() attempt { return attempt{text: []byte("--- - - A-"), barcode: "A"} }
	checkOrder(t, start, append(firstTraps(),
		trap{"no such cartridge", "barcode", func(a *attempt) { a.barcode = "Y" }, api.ErrNotFound},
		trap{"drive failed", "", changed(driveFails), api.ErrFault},
		trap{"robot failed", "", changed(robotFails), api.OK},
		trap{"hand", "", letter(6, 'H'), api.OK},
		trap{"no empty slot", "", fill, api.OK},
	), func(a attempt) operation { return mount(a.barcode, a.number) })
}

// P13.5: every set of the errors of Dismount together
func TestOrderOfErrorsOfDismount(t *testing.T) {
	start := func() attempt { return attempt{text: []byte("--- - - AB")} }
	checkOrder(t, start, append(firstTraps(),
		trap{"drive failed", "state", changed(driveFails), api.ErrFault},
		trap{"robot failed", "", changed(robotFails), api.ErrFault},
		trap{"drive empty", "state", letter(8, '-'), api.ErrState},
		trap{"hand", "", letter(6, 'H'), api.ErrBusy},
		trap{"no empty slot", "", fill, api.ErrFull},
	), func(a attempt) operation { return dismount(a.number) })
}

// P13.6: every set of the errors of Read together
func TestOrderOfErrorsOfRead(t *testing.T) {
	start := func() attempt { return attempt{text: []byte("--- - - AB"), span: api.Span{From: 1, Count: 2}} }
	checkOrder(t, start, append(firstTraps(),
		trap{"drive failed", "state", changed(driveFails), api.ErrFault},
		trap{"drive empty", "state", letter(8, '-'), api.ErrState},
		trap{"From", "", func(a *attempt) { a.span.From = -1 }, api.ErrRange},
		trap{"no Count", "Count", func(a *attempt) { a.span.Count = 0 }, api.ErrRange},
		trap{"too great a Count", "Count", func(a *attempt) { a.span.Count = 5 - min(a.span.From, 0) }, api.ErrRange},
		trap{"bad", "", changed(func(l *api.Library) { l.Cartridges[0].Blocks[2].Bad = true }), api.ErrMedia},
	), func(a attempt) operation { return read(a.number, a.span) })
}

// P13.7: every set of the errors of Append together
func TestOrderOfErrorsOfAppend(t *testing.T) {
	start := func() attempt { return attempt{text: []byte("--- - - AB"), more: "x"} }
	checkOrder(t, start, append(firstTraps(),
		trap{"drive failed", "state", changed(driveFails), api.ErrFault},
		trap{"drive empty", "state", letter(8, '-'), api.ErrState},
		trap{"worn", "", changed(func(l *api.Library) { l.Cartridges[0].Passes = 1 << 50 }), api.ErrProtected},
		trap{"no blocks", "blocks", func(a *attempt) { a.more = "" }, api.ErrInvalid},
		trap{"a bad block", "blocks", func(a *attempt) { a.more = "xxX" }, api.ErrInvalid},
		trap{"locked", "", changed(func(l *api.Library) { l.Cartridges[0].Locked = true }), api.ErrProtected},
		trap{"full", "blocks", func(a *attempt) { a.more = "xx" }, api.ErrFull},
	), func(a attempt) operation { return appending(a.number, blocks(a.more)) })
}

// P13.9, P13.10, P13.11: an invalid library comes before the errors of Remove, Break and Service.
func TestOrderOfOtherErrors(t *testing.T) {
	start := func() attempt { return attempt{text: []byte("ABC - - --"), barcode: "A"} }
	checkOrder(t, start, append(firstTraps()[:3], trap{"not found", "", func(a *attempt) { a.barcode = "Y" }, api.ErrNotFound}),
		func(a attempt) operation { return remove(a.barcode) })
	checkOrder(t, start, append(firstTraps()[:3], trap{"no such drive", "", func(a *attempt) { a.number = 2 }, api.ErrNotFound}),
		func(a attempt) operation { return breaking(driveAt(a.number)) })
	checkOrder(t, start, append(firstTraps()[:3], trap{"hand", "", letter(6, 'H'), api.ErrFull}),
		func(a attempt) operation { return service() })
}
