package drive_test

import (
	"strings"
	"testing"

	"tapearchive/api"
)

// attempt is a call of a function: n is what Seek or Read gets, l what Write gets.
type attempt struct {
	m api.DriveModel
	d api.Drive
	c api.Cartridge
	n int
	l []api.Block
}

// fault puts a fault into a call; faults of one kind, other than "", exclude one another.
type fault struct {
	name, kind string
	put        func(a *attempt)
	e          api.Errno
}

// checkOrder checks a function with every set of these faults, which are in the order of their errors.
func checkOrder(t *testing.T, start func() attempt, faults []fault, do func(a attempt) operation) {
	t.Helper()
	for set := range 1 << len(faults) {
		a, want, names, kinds := start(), api.OK, []string{}, map[string]int{}
		for i, f := range faults {
			if set>>i&1 == 0 {
				continue
			}
			f.put(&a)
			names = append(names, f.name)
			kinds[f.kind]++
			if want == api.OK {
				want = f.e
			}
		}
		delete(kinds, "")
		together := true
		for _, n := range kinds {
			together = together && n == 1
		}
		if !together {
			continue
		}
		o := do(a)
		got := o.do(a.m, a.d, a.c)
		if got.e != want || want != api.OK && want != api.ErrMedia && !got.equal(result{e: want}) {
			t.Errorf("%s with the faults %s: %s, want the error %d", o.name, strings.Join(names, ", "), got, want)
		}
		try(t, o, a.m, a.d, a.c)
	}
}

// loaded is a call that succeeds: the drive holds the cartridge.
func loaded() attempt {
	return attempt{m: model(), d: ready(2), c: holding(geometry(2, 3), "amzm"), n: 2, l: blocks("bm")}
}

// firstFaults are the faults that the first checks find. An empty drive has no head and no barcode, so that ErrNotFound, which would come next, applies to it as well.
func firstFaults() []fault {
	return []fault{
		{"model", "", func(a *attempt) { a.m.Clean = -1 }, api.ErrInvalid},
		{"drive", "", func(a *attempt) { a.d.Loads = -1 }, api.ErrInvalid},
		{"cartridge", "", func(a *attempt) { a.c.Epoch = -1 }, api.ErrInvalid},
		{"failed", "state", func(a *attempt) { a.d.State = api.DriveFailed }, api.ErrFault},
		{"empty", "state", func(a *attempt) { a.d.State, a.d.Barcode, a.d.Head = api.DriveEmpty, "", 0 }, api.ErrState},
		{"barcode", "", func(a *attempt) { a.c.Barcode = "TAPE02" }, api.ErrNotFound},
	}
}

// head is the last fault that the first checks find.
func head() fault {
	return fault{"head", "", func(a *attempt) {
		if a.d.State != api.DriveEmpty {
			a.d.Head = 5
		}
	}, api.ErrInvalid}
}

// firstFaultsAndHead are the faults that the first checks find, without or with an empty drive, which has no head.
func firstFaultsAndHead() [][]fault {
	l := firstFaults()
	ready := append([]fault{}, l[:4]...)
	ready = append(ready, l[5], head())
	return [][]fault{l, ready}
}

// P11.2: every set of the errors of Unload together
func TestOrderOfErrorsOfUnload(t *testing.T) {
	for _, faults := range firstFaultsAndHead() {
		checkOrder(t, loaded, faults, func(a attempt) operation { return unload() })
	}
}

// P11.3: every set of the errors of Seek together
func TestOrderOfErrorsOfSeek(t *testing.T) {
	for _, faults := range firstFaultsAndHead() {
		for _, n := range []int{-1, 5, 7, -5, 4097} {
			more := append([]fault{}, faults...)
			more = append(more, fault{"to", "", func(a *attempt) { a.n = n }, api.ErrRange})
			checkOrder(t, loaded, more, func(a attempt) operation { return seek(a.n) })
		}
	}
}

// P11.4: every set of the errors of Read together
func TestOrderOfErrorsOfRead(t *testing.T) {
	for _, faults := range firstFaultsAndHead() {
		for _, n := range []int{-1, 0, 3, 4097} {
			more := append([]fault{}, faults...)
			more = append(more,
				fault{"number", "", func(a *attempt) { a.n = n }, api.ErrRange},
				fault{"bad", "", func(a *attempt) { a.c.Blocks = blocks("amzM") }, api.ErrMedia})
			checkOrder(t, loaded, more, func(a attempt) operation { return read(a.n) })
		}
	}
}

// P11.5: every set of the errors of Write together
func TestOrderOfErrorsOfWrite(t *testing.T) {
	for _, faults := range firstFaultsAndHead() {
		for _, unfit := range []string{"empty", "bad", "none"} {
			l := map[string][]api.Block{"bad": blocks("aM"), "none": {{Mark: true}, {}}}[unfit]
			more := append([]fault{}, faults...)
			more = append(more,
				fault{"worn", "", func(a *attempt) { a.m.CartridgeLife, a.c.Passes = 3456, 3456 }, api.ErrProtected},
				fault{"blocks " + unfit, "blocks", func(a *attempt) { a.l = l }, api.ErrInvalid},
				fault{"bad at the end", "blocks", func(a *attempt) { a.l = blocks("mmmmmmmmmA") }, api.ErrInvalid},
				fault{"locked", "", func(a *attempt) { a.c.Locked = true }, api.ErrProtected},
				fault{"write-once", "", func(a *attempt) { a.c.WriteOnce = true }, api.ErrProtected},
				fault{"full", "blocks", func(a *attempt) { a.l = blocks("bcdfg") }, api.ErrFull})
			checkOrder(t, loaded, more, func(a attempt) operation { return write(a.l) })
		}
	}
}

// P11.1: every set of the errors of Load together
func TestOrderOfErrorsOfLoad(t *testing.T) {
	unloaded := func() attempt { return attempt{m: model(), d: empty(), c: holding(chapter(), "amzm")} }
	checkOrder(t, unloaded, []fault{
		{"model", "", func(a *attempt) { a.m.Load = 1000001 }, api.ErrInvalid},
		{"drive", "", func(a *attempt) { a.d.Passes = -1 }, api.ErrInvalid},
		{"cartridge", "", func(a *attempt) { a.c.Blocks = append(a.c.Blocks, api.Block{}) }, api.ErrInvalid},
		{"failed", "state", func(a *attempt) { a.d.State = api.DriveFailed }, api.ErrFault},
		{"failed with a cartridge", "state", func(a *attempt) { a.d.State, a.d.Barcode, a.d.Head = api.DriveFailed, "TAPE01", 4 }, api.ErrFault},
		{"ready", "state", func(a *attempt) { a.d.State, a.d.Barcode, a.d.Head = api.DriveReady, "TAPE01", 1 }, api.ErrBusy},
		{"ready with another one", "state", func(a *attempt) { a.d.State, a.d.Barcode, a.d.Head = api.DriveReady, "TAPE02", 9 }, api.ErrBusy},
		{"ready with nothing", "state", func(a *attempt) { a.d.State = api.DriveReady }, api.ErrBusy},
		{"due", "", func(a *attempt) { a.m.CleanEvery, a.d.Since = 808, max(a.d.Since, 808) }, api.ErrState},
	}, func(a attempt) operation { return load() })
}

// P11.6: every set of the errors of Clean together
func TestOrderOfErrorsOfClean(t *testing.T) {
	unloaded := func() attempt { return attempt{m: model(), d: empty()} }
	checkOrder(t, unloaded, []fault{
		{"model", "", func(a *attempt) { a.m.Clean = -1 }, api.ErrInvalid},
		{"drive", "", func(a *attempt) { a.d.Since = 1<<50 + 1 }, api.ErrInvalid},
		{"failed", "state", func(a *attempt) { a.d.State = api.DriveFailed }, api.ErrFault},
		{"ready", "state", func(a *attempt) { a.d.State = api.DriveReady }, api.ErrBusy},
	}, func(a attempt) operation { return clean() })
}
