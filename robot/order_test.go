package robot_test

import (
	"strings"
	"testing"

	"tapearchive/api"
)

// attempt is a call of Pick or Put.
type attempt struct {
	m       api.RobotModel
	r       api.Robot
	e       api.Element
	barcode string
}

// fault puts a fault into a call; of those of one kind, other than "", only one is put.
type fault struct {
	name, kind string
	put        func(a *attempt)
	e          api.Errno
}

// checkOrder checks a function with every set of these faults, which are in the order of their errors.
func checkOrder(t *testing.T, start func() attempt, faults []fault, do func(a attempt) operation) {
	t.Helper()
	for set := range 1 << len(faults) {
		a, want, names, kinds, together := start(), api.OK, []string{}, map[string]bool{}, true
		for i, f := range faults {
			if set>>i&1 == 0 {
				continue
			}
			f.put(&a)
			names = append(names, f.name)
			together = together && !kinds[f.kind]
			kinds[f.kind] = f.kind != ""
			if want == api.OK {
				want = f.e
			}
		}
		if !together {
			continue
		}
		o := do(a)
		if got := try(t, o, a.m, a.r); got.e != want || want != api.OK && !got.equal(result{e: want}) {
			t.Errorf("%s with the faults %s: %s, want the error %d", o.name, strings.Join(names, ", "), got, want)
		}
	}
}

// firstFaults are the faults that Pick and Put look for first.
func firstFaults() []fault {
	return []fault{
		{"model", "", func(a *attempt) { a.m.Put = -1 }, api.ErrInvalid},
		{"slots", "slots", func(a *attempt) { a.r.Slots = append(a.r.Slots, "") }, api.ErrInvalid},
		{"fewer slots", "slots", func(a *attempt) { a.m.Slots++ }, api.ErrInvalid},
		{"position", "", func(a *attempt) { a.r.At = 11 }, api.ErrInvalid},
		{"twice", "", func(a *attempt) { a.r.Slots[0], a.r.Slots[2] = "T", "T" }, api.ErrInvalid},
		{"failed", "", func(a *attempt) { a.r.Failed = true }, api.ErrFault},
		{"hand", "element", func(a *attempt) { a.e = hand() }, api.ErrNotFound},
		{"second port", "element", func(a *attempt) { a.e = api.Element{Kind: api.ElementPort, Index: 1} }, api.ErrNotFound},
		{"drive", "element", func(a *attempt) { a.e = drive(2) }, api.ErrNotFound},
		{"slot", "element", func(a *attempt) { a.e = slot(5) }, api.ErrNotFound},
		{"kind", "element", func(a *attempt) { a.e = api.Element{Kind: 4} }, api.ErrNotFound},
	}
}

// P12.4: every set of the errors of Pick together
func TestOrderOfErrorsOfPick(t *testing.T) {
	busy := fault{"busy", "", func(a *attempt) { a.r.Hand = "H" }, api.ErrBusy}
	for _, x := range []struct {
		e    api.Element
		last []fault
	}{
		{slot(1), []fault{{"empty", "", func(a *attempt) { a.r.Slots[1] = "" }, api.ErrNotFound}}},
		{port(), []fault{{"empty", "", func(a *attempt) { a.r.Port = "" }, api.ErrNotFound}}},
		{drive(1), []fault{
			{"no barcode", "barcode", func(a *attempt) { a.barcode = "" }, api.ErrInvalid},
			{"in a slot", "barcode", func(a *attempt) { a.barcode = "B" }, api.ErrInvalid},
			{"in the port", "barcode", func(a *attempt) { a.barcode = "P" }, api.ErrInvalid}}},
	} {
		start := func() attempt { return attempt{chapter(), at(5, "-B-D P -"), x.e, "X"} }
		checkOrder(t, start, append(append(firstFaults(), busy), x.last...), func(a attempt) operation { return pick(a.e, a.barcode) })
	}
}

// P12.5: every set of the errors of Put together
func TestOrderOfErrorsOfPut(t *testing.T) {
	none := fault{"nothing in the hand", "", func(a *attempt) { a.r.Hand = "" }, api.ErrNotFound}
	for _, x := range []struct {
		e    api.Element
		last []fault
	}{
		{slot(1), []fault{{"full", "", func(a *attempt) { a.r.Slots[1] = "B" }, api.ErrFull}}},
		{port(), []fault{{"full", "", func(a *attempt) { a.r.Port = "P" }, api.ErrFull}}},
		{drive(1), nil},
	} {
		start := func() attempt { return attempt{chapter(), at(5, "---D - H"), x.e, ""} }
		checkOrder(t, start, append(append(firstFaults(), none), x.last...), func(a attempt) operation { return put(a.e) })
	}
}
