package robot_test

import (
	"fmt"
	"math"
	"slices"
	"strings"
	"testing"

	"tapearchive/api"
	"tapearchive/robot"
)

// What the functions must return, computed by going along the rail position by position, and the models and robots that the tests try.

// random is a sequence of numbers that is the same in each run.
type random uint64

// below returns the next number, from 0 to n - 1.
func (r *random) below(n int) int {
	*r = *r*6364136223846793005 + 1442695040888963407
	x := uint64(*r)
	return int((x ^ x>>33) * 0xFF51AFD7ED558CCD >> 1 % uint64(n))
}

// chapter is the model of the chapter's examples.
func chapter() api.RobotModel {
	return api.RobotModel{Slots: 4, Drives: 2, DriveAt: 6, PortAt: 10, Move: 2, Pick: 5, Put: 4}
}

// models are valid models: the chapter's, the least and the greatest one, and those whose rail ends at a slot, at a drive, at the port, and at several of them.
func models() []api.RobotModel {
	return []api.RobotModel{
		chapter(),
		{Slots: 1, Drives: 1},
		{Slots: 64, Drives: 8, DriveAt: 1000, PortAt: 1000, Move: 1000000, Pick: 1000000, Put: 1000000},
		{Slots: 6, Drives: 2, DriveAt: 3, PortAt: 4, Move: 100, Pick: 10, Put: 1},
		{Slots: 3, Drives: 3, DriveAt: 2, PortAt: 3, Move: 7, Pick: 0, Put: 9},
		{Slots: 3, Drives: 2, DriveAt: 0, PortAt: 5, Move: 1000, Pick: 30, Put: 0},
		{Slots: 4, Drives: 4, DriveAt: 0, PortAt: 3, Move: 3, Pick: 1, Put: 2},
		{Slots: 2, Drives: 1, DriveAt: 1000, PortAt: 0, Move: 0, Pick: 3, Put: 8},
	}
}

// slot, drive, port and hand are elements.
func slot(i int) api.Element  { return api.Element{Kind: 0, Index: i} }
func drive(i int) api.Element { return api.Element{Kind: 1, Index: i} }
func port() api.Element       { return api.Element{Kind: 2} }
func hand() api.Element       { return api.Element{Kind: 3} }

// at returns a robot at a position. The text has a letter for each of its barcodes, or - for none: those of the slots, of the port and of the hand.
func at(position int, text string) api.Robot {
	barcodes := func(letters string) []string {
		var l []string
		for _, letter := range letters {
			l = append(l, strings.Trim(string(letter), "-"))
		}
		return l
	}
	parts := strings.Split(text, " ")
	return api.Robot{At: position, Slots: barcodes(parts[0]), Port: barcodes(parts[1])[0], Hand: barcodes(parts[2])[0]}
}

// failed returns a robot that is out of order.
func failed(r api.Robot) api.Robot {
	r.Failed = true
	return r
}

// cloned returns the same robot in memory of its own.
func cloned(r api.Robot) api.Robot {
	r.Slots = slices.Clone(r.Slots)
	return r
}

// same reports whether two robots are equal; nil and empty lists are.
func same(a, b api.Robot) bool {
	return slices.Equal(a.Slots, b.Slots) && a.At == b.At && a.Failed == b.Failed && a.Port == b.Port && a.Hand == b.Hand
}

// name names a robot in a message.
func name(r api.Robot) string {
	return fmt.Sprintf("robot at %d, failed %t, slots %q, port %q, hand %q", r.At, r.Failed, r.Slots, r.Port, r.Hand)
}

// result is what a function returns; what it does not return is zero.
type result struct {
	r  api.Robot
	n  int // a time or a position
	ok bool
	e  api.Errno
}

// String describes a result in a message.
func (x result) String() string {
	return fmt.Sprintf("%s, %d, %t, error %d", name(x.r), x.n, x.ok, x.e)
}

// equal reports whether two results are equal.
func (x result) equal(y result) bool {
	return same(x.r, y.r) && x.n == y.n && x.ok == y.ok && x.e == y.e
}

// check is a condition under which a call fails, and its error.
type check struct {
	fails bool
	e     api.Errno
}

// first returns the error of the first check that fails.
func first(checks ...check) api.Errno {
	for _, c := range checks {
		if c.fails {
			return c.e
		}
	}
	return api.OK
}

// between reports whether n is one of the numbers from least to most.
func between(least, n, most int) bool { return !(n < least) && !(n > most) }

// isModel reports whether a model is valid.
func isModel(m api.RobotModel) bool {
	numbers := between(1, m.Slots, 64) && between(1, m.Drives, 8)
	positions := between(0, m.DriveAt, 1000) && between(0, m.PortAt, 1000)
	return numbers && positions && between(0, m.Move, 1000000) && between(0, m.Pick, 1000000) && between(0, m.Put, 1000000)
}

// known are the positions that have been computed: it would take long to do it again for each call.
var known = map[api.RobotModel]map[api.Element]int{}

// positions returns the positions of the slots, the drives and the port of a valid model.
func positions(m api.RobotModel) map[api.Element]int {
	if places, ok := known[m]; ok {
		return places
	}
	places := map[api.Element]int{port(): m.PortAt}
	for i, position := 0, 0; i != m.Slots; i, position = i+1, position+1 {
		places[slot(i)] = position
	}
	for i, position := 0, m.DriveAt; i != m.Drives; i, position = i+1, position+1 {
		places[drive(i)] = position
	}
	known[m] = places
	return places
}

// rail returns the end of the rail of a valid model.
func rail(m api.RobotModel) int {
	last := 0
	for _, position := range positions(m) {
		if position > last {
			last = position
		}
	}
	return last
}

// isFit reports whether a robot fits a model.
func isFit(m api.RobotModel, r api.Robot) bool {
	if !isModel(m) || len(r.Slots) != m.Slots || r.At < 0 || r.At > rail(m) {
		return false
	}
	all := append(slices.Clone(r.Slots), r.Port, r.Hand)
	for i, a := range all {
		for _, b := range all[:i] {
			if a == b && len(a) > 0 {
				return false
			}
		}
	}
	return true
}

// way returns the time to go from one position to another one.
func way(m api.RobotModel, from, to int) int {
	time := 0
	for ; from < to; from++ {
		time += m.Move
	}
	for ; from > to; from-- {
		time += m.Move
	}
	return time
}

// operation is a call of one of the functions that get a model and a robot, and what it must return.
type operation struct {
	name     string
	do, want func(m api.RobotModel, r api.Robot) result
}

// valid is Valid.
func valid() operation {
	return operation{"Valid", func(m api.RobotModel, r api.Robot) result {
		return result{ok: robot.Valid(m, r)}
	}, func(m api.RobotModel, r api.Robot) result {
		return result{ok: isFit(m, r)}
	}}
}

// position is Position of an element.
func position(e api.Element) operation {
	return operation{fmt.Sprintf("Position of %+v", e), func(m api.RobotModel, r api.Robot) (x result) {
		x.n, x.ok = robot.Position(m, r, e)
		return x
	}, func(m api.RobotModel, r api.Robot) result {
		if !isFit(m, r) {
			return result{}
		}
		if e == hand() {
			return result{n: r.At, ok: true}
		}
		n, ok := positions(m)[e]
		return result{n: n, ok: ok}
	}}
}

// travel is Travel between two positions.
func travel(from, to int) operation {
	return operation{fmt.Sprintf("Travel from %d to %d", from, to), func(m api.RobotModel, r api.Robot) result {
		return result{n: robot.Travel(m, from, to)}
	}, func(m api.RobotModel, r api.Robot) result {
		if !isModel(m) || !between(0, from, rail(m)) || !between(0, to, rail(m)) {
			return result{}
		}
		return result{n: way(m, from, to)}
	}}
}

// farthest is Farthest.
func farthest() operation {
	return operation{"Farthest", func(m api.RobotModel, r api.Robot) result {
		return result{n: robot.Farthest(m)}
	}, func(m api.RobotModel, r api.Robot) result {
		if !isModel(m) {
			return result{}
		}
		return result{n: way(m, 0, rail(m)) + m.Pick + way(m, rail(m), 0) + m.Put}
	}}
}

// pick is Pick from an element, with a barcode.
func pick(e api.Element, barcode string) operation {
	return operation{fmt.Sprintf("Pick from %+v of %q", e, barcode), func(m api.RobotModel, r api.Robot) (x result) {
		x.r, x.n, x.e = robot.Pick(m, r, e, barcode)
		return x
	}, func(m api.RobotModel, r api.Robot) result {
		if !isFit(m, r) {
			return result{e: api.ErrInvalid}
		}
		to, ok := positions(m)[e]
		if e := first(check{r.Failed, api.ErrFault}, check{!ok, api.ErrNotFound}, check{r.Hand > "", api.ErrBusy}); e != api.OK {
			return result{e: e}
		}
		taken := cloned(r)
		taken.At = to
		switch e.Kind {
		case 0:
			taken.Hand, taken.Slots[e.Index] = r.Slots[e.Index], ""
		case 2:
			taken.Hand, taken.Port = r.Port, ""
		case 1:
			if barcode == "" || slices.Contains(append(cloned(r).Slots, r.Port), barcode) {
				return result{e: api.ErrInvalid}
			}
			taken.Hand = barcode
		}
		if taken.Hand == "" {
			return result{e: api.ErrNotFound}
		}
		return result{r: taken, n: way(m, r.At, to) + m.Pick}
	}}
}

// put is Put into an element.
func put(e api.Element) operation {
	return operation{fmt.Sprintf("Put into %+v", e), func(m api.RobotModel, r api.Robot) (x result) {
		x.r, x.n, x.e = robot.Put(m, r, e)
		return x
	}, func(m api.RobotModel, r api.Robot) result {
		if !isFit(m, r) {
			return result{e: api.ErrInvalid}
		}
		to, ok := positions(m)[e]
		full := ok && e.Kind == 0 && r.Slots[max(min(e.Index, len(r.Slots)-1), 0)] > "" || e == port() && r.Port > ""
		if e := first(check{r.Failed, api.ErrFault}, check{!ok, api.ErrNotFound}, check{r.Hand == "", api.ErrNotFound}, check{full, api.ErrFull}); e != api.OK {
			return result{e: e}
		}
		given := cloned(r)
		given.At, given.Hand = to, ""
		switch e.Kind {
		case 0:
			given.Slots[e.Index] = r.Hand
		case 2:
			given.Port = r.Hand
		}
		return result{r: given, n: way(m, r.At, to) + m.Put}
	}}
}

// kinds are all Kinds of elements, and some that are none.
func kinds() []int { return []int{0, 1, 2, 3, -2, -1, 4, 5, 256, math.MinInt, math.MaxInt} }

// indices are the indices of which the elements of a model are tried.
func indices(m api.RobotModel) []int {
	return []int{-1, 0, 1, m.Drives - 1, m.Drives, m.Slots - 2, m.Slots - 1, m.Slots, m.Slots + 1, 63, 64, math.MinInt, math.MaxInt}
}

// elements are the elements of which the functions are tried: there are such elements, or not.
func elements(m api.RobotModel) []api.Element {
	var l []api.Element
	for _, kind := range kinds() {
		for _, index := range indices(m) {
			if e := (api.Element{Kind: kind, Index: index}); !slices.Contains(l, e) {
				l = append(l, e)
			}
		}
	}
	return l
}

// operations are calls of all functions that get a model. The barcodes are none, one in a slot, the port and the hand of robots, and one that no robot has.
func operations(m api.RobotModel) []operation {
	l := []operation{valid(), farthest(), travel(0, 0), travel(0, 1), travel(1, 0)}
	for _, e := range elements(m) {
		l = append(l, position(e), put(e))
		for _, barcode := range []string{"", "A", "P", "H", "X"} {
			l = append(l, pick(e, barcode))
		}
	}
	return l
}

// slots returns texts for n slots: none of them is empty, all are, and only the first or the last one is or is not.
func slots(n int) []string {
	letters := []rune{'A'}
	for len(letters) < n {
		letters = append(letters, rune('Ā'+len(letters)))
	}
	empty := strings.Repeat("-", n)
	l := []string{string(letters[:n]), empty}
	if n > 1 {
		l = append(l, "A"+empty[1:], empty[1:]+"A", "-"+string(letters[:n-1]), string(letters[:n-1])+"-")
	}
	return l
}

// robots are robots that fit a model: at the beginning, in the middle and at the end of the rail, with slots, port and hand empty and full, in order and out of order.
func robots(m api.RobotModel) []api.Robot {
	var l []api.Robot
	for _, position := range []int{0, rail(m) / 2, rail(m)} {
		for _, text := range slots(m.Slots) {
			for _, others := range []string{" - -", " P -", " - H", " P H"} {
				r := at(position, text+others)
				l = append(l, r, failed(r))
			}
		}
	}
	return l
}

// try checks an operation against what it must return, that it has not changed the robot, and that the robot that it returns fits the model; it returns its result.
func try(t *testing.T, o operation, m api.RobotModel, r api.Robot) result {
	t.Helper()
	before := cloned(r)
	got, want := o.do(m, r), o.want(m, before)
	if !got.equal(want) {
		t.Errorf("%+v, %s: %s:\n%s\nwant %s", m, name(r), o.name, got, want)
	}
	if !same(r, before) {
		t.Errorf("%+v, %s: %s has changed it to %s", m, name(before), o.name, name(r))
	}
	if got.e == api.OK && len(got.r.Slots) > 0 && !isFit(m, got.r) {
		t.Errorf("%+v, %s: %s:\n%s\ndoes not fit", m, name(r), o.name, got)
	}
	return got
}

// expect checks the error of an operation, and that all its other results are zero.
func expect(t *testing.T, o operation, m api.RobotModel, r api.Robot, e api.Errno) {
	t.Helper()
	if got := o.do(m, r); !got.equal(result{e: e}) {
		t.Errorf("%+v, %s: %s: %s, want the error %d", m, name(r), o.name, got, e)
	}
}

// extremes are ints that are far too small, or far too great.
func extremes() []int {
	return []int{math.MinInt, math.MinInt + 1, math.MinInt + 1000, math.MinInt / 2, -1 << 50, -1 << 32, -1000001, -1000, 1000001, 1 << 32, 1 << 50, 1 << 62, math.MaxInt / 2, math.MaxInt - 1000, math.MaxInt - 1, math.MaxInt}
}

// TestReference checks what the other tests rely on.
func TestReference(t *testing.T) {
	if api.ElementSlot != 0 || api.ElementDrive != 1 || api.ElementPort != 2 || api.ElementHand != 3 {
		t.Error("the elements are not those of the tests")
	}
	r := at(7, "A-B P -")
	if !same(r, api.Robot{At: 7, Slots: []string{"A", "", "B"}, Port: "P"}) || !same(at(0, " - H"), api.Robot{Hand: "H"}) {
		t.Errorf("%s", name(r))
	}
	m := chapter()
	places := positions(m)
	if len(places) != 7 || places[slot(0)] != 0 || places[slot(3)] != 3 || places[drive(0)] != 6 || places[drive(1)] != 7 || places[port()] != 10 {
		t.Error(places)
	}
	ends := []int{}
	for _, m := range models() {
		if !isModel(m) {
			t.Errorf("%+v is not valid", m)
		}
		ends = append(ends, rail(m))
		for _, r := range robots(m) {
			if !isFit(m, r) {
				t.Errorf("%+v: %s does not fit", m, name(r))
			}
		}
	}
	if !slices.Equal(ends, []int{10, 0, 1007, 5, 4, 5, 3, 1000}) {
		t.Error(ends)
	}
	if way(m, 3, 10) != 14 || way(m, 10, 3) != 14 || way(m, 4, 4) != 0 {
		t.Error("the ways are not right")
	}
	if isFit(m, at(0, "A-B P -")) || isFit(m, at(11, "A-B- P -")) || isFit(m, at(0, "A-A- P -")) || isFit(m, at(0, "A-B- B -")) || isFit(m, at(0, "A-B- P P")) || !isFit(m, at(10, "---- - -")) {
		t.Error("robots that do not fit are not told from others")
	}
	a := result{r: at(1, "A-B- P H"), n: 3, e: api.OK}
	for _, change := range []func(x *result){func(x *result) { x.r.At++ }, func(x *result) { x.r.Failed = true }, func(x *result) { x.r.Slots[1] = "B" }, func(x *result) { x.r.Port = "" }, func(x *result) { x.r.Hand = "" }, func(x *result) { x.n++ }, func(x *result) { x.ok = true }, func(x *result) { x.e = api.ErrFull }} {
		b := a
		b.r = cloned(a.r)
		if !a.equal(b) {
			t.Errorf("%s is not equal to itself", a)
		}
		if change(&b); a.equal(b) || b.equal(a) {
			t.Errorf("%s is not told from %s", b, a)
		}
	}
}
