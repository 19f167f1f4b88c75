package library_test

import (
	"fmt"
	"slices"
	"strings"
	"testing"

	"tapearchive/api"
	"tapearchive/library"
)

// tapes returns cartridges with these letters, in this order.
func tapes(letters string) []api.Cartridge {
	var l []api.Cartridge
	for _, letter := range letters {
		l = append(l, tape(string(letter)))
	}
	return l
}

// many returns n cartridges without blocks, ascending by barcode.
func many(n int) []api.Cartridge {
	var l []api.Cartridge
	for i := range n {
		l = append(l, api.Cartridge{Barcode: fmt.Sprintf("TAPE%03d", i), Geometry: geometry(), Epoch: i})
	}
	return l
}

// wantNew returns what New must return.
func wantNew(m api.RobotModel, d api.DriveModel, l []api.Cartridge) result {
	invalid, count := !isRobotModel(m) || !isDriveModel(d), map[string]int{}
	for _, c := range l {
		invalid = invalid || !isTape(c)
		count[c.Barcode]++
	}
	e := first(check{invalid, api.ErrInvalid}, check{len(count) < len(l), api.ErrExists}, check{len(l) > m.Slots, api.ErrFull})
	if e != api.OK {
		return result{e: e}
	}
	x := api.Library{Model: m, Drive: d, Robot: api.Robot{Slots: make([]string, m.Slots)}, Drives: make([]api.Drive, m.Drives)}
	for _, c := range l {
		place := 0
		for _, other := range l {
			if other.Barcode < c.Barcode {
				place++
			}
		}
		x.Robot.Slots[place] = c.Barcode
	}
	for _, barcode := range x.Robot.Slots {
		for _, c := range l {
			if c.Barcode == barcode {
				x.Cartridges = append(x.Cartridges, clonedTape(c))
			}
		}
	}
	return result{l: x}
}

// tryNew checks New against what it must return, and the error that it returns; it returns the library.
func tryNew(t *testing.T, m api.RobotModel, d api.DriveModel, l []api.Cartridge, e api.Errno) api.Library {
	t.Helper()
	before := slices.Clone(l)
	got, errno := library.New(m, d, l)
	if x := (result{l: got, e: errno}); errno != e || !x.equal(wantNew(m, d, l)) {
		t.Errorf("New of %+v, %+v and %d cartridges: %s\nwant %s", m, d, len(l), x, wantNew(m, d, l))
	}
	if !slices.EqualFunc(l, before, sameTape) {
		t.Errorf("New has changed the cartridges")
	}
	if e == api.OK && (!library.Valid(got) || !isValid(got)) {
		t.Errorf("New: %sis not valid", name(got))
	}
	return got
}

// P13.1: libraries without cartridges, with some, and with as many as there are slots, in any order
func TestNew(t *testing.T) {
	l := tryNew(t, robotModel(4, 3), driveModel(), tapes("CAB"), api.OK)
	want := api.Library{Model: robotModel(4, 3), Drive: driveModel(), Robot: api.Robot{Slots: []string{"A", "B", "C", ""}}, Drives: []api.Drive{{}, {}, {}}, Cartridges: tapes("ABC")}
	if !same(l, want) {
		t.Errorf("%s\nwant %s", name(l), name(want))
	}
	for _, letters := range []string{"", "A", "X", "AB", "BA", "ABC", "ACB", "BAC", "BCA", "CBA", "ABCD", "DCBA", "CADB", "ZAME"} {
		l := tryNew(t, robotModel(4, 2), driveModel(), tapes(letters), api.OK)
		sorted := strings.Split(letters, "")
		slices.Sort(sorted)
		if got := strings.Join(l.Robot.Slots, ""); got != strings.Join(sorted, "") || len(l.Robot.Slots) != 4 || len(l.Drives) != 2 {
			t.Errorf("%s: %s", letters, name(l))
		}
	}
	for slots := 1; slots <= 64; slots++ {
		l := many(slots)
		tryNew(t, robotModel(slots, 1+slots%8), driveModel(), l, api.OK)
		slices.Reverse(l)
		tryNew(t, robotModel(slots, 8), driveModel(), l, api.OK)
	}
}

// P13.1: the order is that of the bytes of the barcodes.
func TestNewOrder(t *testing.T) {
	var l []api.Cartridge
	for _, barcode := range []string{"B", "AB", "A", "9", "10", "A0", "2", strings.Repeat("Z", 24), "AA", "Z"} {
		c := tape("A")
		c.Barcode = barcode
		l = append(l, c)
	}
	got := tryNew(t, robotModel(11, 1), driveModel(), l, api.OK)
	want := []string{"10", "2", "9", "A", "A0", "AA", "AB", "B", "Z", strings.Repeat("Z", 24), ""}
	if !slices.Equal(got.Robot.Slots, want) {
		t.Errorf("%q, want %q", got.Robot.Slots, want)
	}
}

// P13.1: as many cartridges as slots, and one more
func TestNewFull(t *testing.T) {
	for _, slots := range []int{1, 2, 5, 63, 64} {
		tryNew(t, robotModel(slots, 8), driveModel(), many(slots-1), api.OK)
		tryNew(t, robotModel(slots, 8), driveModel(), many(slots), api.OK)
		tryNew(t, robotModel(slots, 8), driveModel(), many(slots+1), api.ErrFull)
		tryNew(t, robotModel(slots, 8), driveModel(), many(300), api.ErrFull)
	}
}

// P13.1: the same barcode twice, in each two places
func TestNewExists(t *testing.T) {
	for i := range 5 {
		for k := range i {
			l := tapes("ABCDE")
			l[i].Barcode = l[k].Barcode
			tryNew(t, robotModel(9, 2), driveModel(), l, api.ErrExists)
		}
	}
	tryNew(t, robotModel(9, 2), driveModel(), tapes("AAA"), api.ErrExists)
	tryNew(t, robotModel(9, 2), driveModel(), tapes("ABCA"), api.ErrExists)
}

// P13.1: a model or a cartridge that is not valid by each condition alone
func TestNewInvalid(t *testing.T) {
	for _, f := range robotModelFaults() {
		l := lib("---- - - --")
		f.put(&l)
		tryNew(t, l.Model, driveModel(), tapes("AB"), api.ErrInvalid)
		tryNew(t, l.Model, driveModel(), nil, api.ErrInvalid)
	}
	for _, f := range driveModelFaults() {
		l := lib("---- - - --")
		f.put(&l)
		tryNew(t, robotModel(4, 2), l.Drive, tapes("AB"), api.ErrInvalid)
		tryNew(t, robotModel(4, 2), l.Drive, nil, api.ErrInvalid)
	}
	for _, f := range tapeFaults() {
		for i := range 3 {
			l := tapes("CBA")
			f.put(&l[i])
			tryNew(t, robotModel(4, 2), driveModel(), l, api.ErrInvalid)
		}
	}
	tryNew(t, api.RobotModel{}, api.DriveModel{}, nil, api.ErrInvalid)
}

// P13.1: models at their bounds
func TestNewBounds(t *testing.T) {
	least := api.RobotModel{Slots: 1, Drives: 1}
	greatest := api.RobotModel{Slots: 64, Drives: 8, DriveAt: 1000, PortAt: 1000, Move: 1000000, Pick: 1000000, Put: 1000000}
	most := api.DriveModel{Load: 1000000, Unload: 1000000, Clean: 1000000, CleanEvery: 1 << 50, CartridgeLife: 1 << 50}
	for _, m := range []api.RobotModel{least, greatest} {
		for _, d := range []api.DriveModel{{}, most} {
			tryNew(t, m, d, nil, api.OK)
			tryNew(t, m, d, many(m.Slots), api.OK)
			tryNew(t, m, d, many(m.Slots+1), api.ErrFull)
		}
	}
	c := api.Cartridge{Barcode: strings.Repeat("9", 24), Geometry: api.Geometry{Wraps: 32, Length: 128, Step: 1000000, Turn: 1000000, Jump: 1000000, Stream: 1000000}, Blocks: slices.Repeat(blocks("z"), 4096), Epoch: 1 << 50, Loads: 1 << 50, Passes: 1 << 50}
	tryNew(t, least, most, []api.Cartridge{c}, api.OK)
	c.Blocks = append(c.Blocks, blocks("z")...)
	tryNew(t, least, most, []api.Cartridge{c}, api.ErrInvalid)
}

// P13.1: the least and the greatest ints in each number of the models
func TestNewExtremes(t *testing.T) {
	for _, n := range extremes() {
		for i := range 7 {
			m := robotModel(4, 2)
			*[]*int{&m.Slots, &m.Drives, &m.DriveAt, &m.PortAt, &m.Move, &m.Pick, &m.Put}[i] = n
			tryNew(t, m, driveModel(), tapes("AB"), api.ErrInvalid)
		}
		for i := range 5 {
			d := driveModel()
			*[]*int{&d.Load, &d.Unload, &d.Clean, &d.CleanEvery, &d.CartridgeLife}[i] = n
			// Passes are limited by MaxNumber, which is greater than some of these.
			e := api.ErrInvalid
			if i > 2 && n >= 0 && n <= 1<<50 {
				e = api.OK
			}
			tryNew(t, robotModel(4, 2), d, tapes("AB"), e)
		}
	}
}

// P13.1: every set of the errors of New together
func TestOrderOfErrorsOfNew(t *testing.T) {
	type faulty struct {
		m api.RobotModel
		d api.DriveModel
		l []api.Cartridge
	}
	faults := []struct {
		put func(a *faulty)
		e   api.Errno
	}{
		{func(a *faulty) { a.m.Pick = -1 }, api.ErrInvalid},
		{func(a *faulty) { a.d.Clean = 1000001 }, api.ErrInvalid},
		{func(a *faulty) { a.l[3].Loads = -1 }, api.ErrInvalid},
		{func(a *faulty) { a.l[0].Barcode = a.l[2].Barcode }, api.ErrExists},
		{func(a *faulty) { a.l[1].Barcode = a.l[3].Barcode }, api.ErrExists},
		{func(a *faulty) { a.l = append(a.l, tape("F")) }, api.ErrFull},
		{func(a *faulty) { a.m.Slots = 3 }, api.ErrFull},
	}
	for set := range 1 << len(faults) {
		a, want := faulty{robotModel(4, 2), driveModel(), tapes("DCBA")}, api.OK
		for i, f := range faults {
			if set>>i&1 == 1 {
				f.put(&a)
				if want == api.OK {
					want = f.e
				}
			}
		}
		tryNew(t, a.m, a.d, a.l, want)
	}
	// With one that is not valid in front of and behind two that are equal
	for _, letters := range []string{"AAB", "ABA", "BAA"} {
		l := tapes(letters)
		for i := range l {
			if l[i].Barcode == "B" {
				l[i].Epoch = -1
			}
		}
		tryNew(t, robotModel(2, 2), driveModel(), l, api.ErrInvalid)
	}
	tryNew(t, robotModel(2, 2), driveModel(), tapes("ABB"), api.ErrExists)
}
