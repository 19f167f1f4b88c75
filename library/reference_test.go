package library_test

import (
	"bytes"
	"fmt"
	"math"
	"regexp"
	"slices"
	"strings"
	"testing"

	"tapearchive/api"
	"tapearchive/library"
	"tapearchive/serpentine"
)

// What the functions must return, computed element by element without the layers 10 to 12, and the libraries that the tests try.

// random is a sequence of numbers that is the same in each run.
type random uint64

// below returns the next number, from 0 to n - 1.
func (r *random) below(n int) int {
	*r = *r*6364136223846793005 + 1442695040888963407
	x := uint64(*r)
	return int((x ^ x>>33) * 0xFF51AFD7ED558CCD >> 1 % uint64(n))
}

// blocks returns a block for each letter: m and M are marks, any other letter stands for data, of one byte or more. A capital letter is Bad.
func blocks(letters string) []api.Block {
	var l []api.Block
	for _, letter := range []byte(letters) {
		lower := letter | 0x20
		b := api.Block{Bad: letter != lower}
		if lower == 'm' {
			b.Mark = true
		} else {
			b.Data = bytes.Repeat([]byte{lower}, sizeOf(lower))
		}
		l = append(l, b)
	}
	return l
}

// sizeOf returns the number of bytes of the data for a letter: 1 for a, 64 for z.
func sizeOf(letter byte) int {
	switch {
	case letter < 'a' || letter > 'z': // no letter, in a message
		return 0
	case letter == 'z':
		return 64
	}
	return int(letter-'a') + 1
}

// text returns the letters of blocks; a block that no letter stands for is written as ?.
func text(l []api.Block) string {
	s := ""
	for _, b := range l {
		letter := "m"
		if len(b.Data) > 0 {
			letter = string(b.Data[:1])
		}
		if b.Bad {
			letter = strings.ToUpper(letter)
		}
		if !sameBlocks([]api.Block{b}, blocks(letter)) {
			letter = "?"
		}
		s += letter
	}
	return s
}

// robotModel returns a model with these numbers of slots and drives, whose times are so different that no two sums of a few of them are equal.
func robotModel(slots, drives int) api.RobotModel {
	return api.RobotModel{Slots: slots, Drives: drives, DriveAt: slots + 2, PortAt: slots + drives + 5, Move: 1000, Pick: 50, Put: 3}
}

// driveModel returns a model in which drive 1 of the tests is due, and cartridge C is worn.
func driveModel() api.DriveModel {
	return api.DriveModel{Load: 900001, Unload: 300100, Clean: 700020, CleanEvery: 8500, CartridgeLife: 30000}
}

// geometry returns one with six blocks.
func geometry() api.Geometry {
	return api.Geometry{Wraps: 2, Length: 3, Step: 11, Turn: 40009, Jump: 107, Stream: 20003}
}

// tape returns a cartridge with a letter as its barcode: it has five blocks, of which the fourth one is bad, and its other numbers are all different. C is worn, D locked, and E write-once.
func tape(letter string) api.Cartridge {
	k := int(letter[0] - 'A')
	c := api.Cartridge{Barcode: letter, Geometry: geometry(), Blocks: blocks(strings.ToLower(letter) + "mzBc"), WriteOnce: letter == "E", Locked: letter == "D", Epoch: 3 + k, Loads: 20 + k, Passes: 1001 * k}
	if letter == "C" {
		c.Passes = 30000
	}
	return c
}

// lib returns a library. The text has a letter for each cartridge: in the slots, the port, the hand, and the drives, - for none. A drive is ready with a capital letter and empty with -; it is failed with a small letter, which stands for the cartridge of the capital one, and with ! for none.
func lib(text string) api.Library {
	parts := strings.Split(text, " ")
	l := api.Library{Model: robotModel(len(parts[0]), len(parts[3])), Drive: driveModel(), Robot: api.Robot{At: 1, Port: strings.Trim(parts[1], "-"), Hand: strings.Trim(parts[2], "-")}}
	for _, letter := range parts[0] {
		l.Robot.Slots = append(l.Robot.Slots, strings.Trim(string(letter), "-"))
	}
	for i, letter := range parts[3] {
		d := api.Drive{Loads: 5 + i, Passes: 60000 + i, Since: 8000 + 500*i, Barcode: strings.ToUpper(strings.Trim(string(letter), "-!"))}
		switch {
		case letter == '!' || letter >= 'a':
			d.State = api.DriveFailed
		case letter != '-':
			d.State = api.DriveReady
		}
		if d.Barcode != "" {
			d.Head = max(4-i, 0)
		}
		l.Drives = append(l.Drives, d)
	}
	letters := strings.Split(strings.ToUpper(strings.NewReplacer(" ", "", "-", "", "!", "").Replace(text)), "")
	slices.Sort(letters)
	for _, letter := range letters {
		l.Cartridges = append(l.Cartridges, tape(letter))
	}
	return l
}

// failed returns a library whose robot is out of order.
func failed(l api.Library) api.Library {
	l.Robot.Failed = true
	return l
}

// slot, driveAt, port and hand are elements.
func slot(i int) api.Element    { return api.Element{Kind: 0, Index: i} }
func driveAt(i int) api.Element { return api.Element{Kind: 1, Index: i} }
func port() api.Element         { return api.Element{Kind: 2} }
func hand() api.Element         { return api.Element{Kind: 3} }

// elements are the elements of a library.
func elements(l api.Library) []api.Element {
	var all []api.Element
	for i := range l.Robot.Slots {
		all = append(all, slot(i))
	}
	for i := range l.Drives {
		all = append(all, driveAt(i))
	}
	return append(all, port(), hand())
}

// in returns where a library keeps the barcode in an element.
func in(l *api.Library, e api.Element) *string {
	return [...]func() *string{
		func() *string { return &l.Robot.Slots[e.Index] }, func() *string { return &l.Drives[e.Index].Barcode },
		func() *string { return &l.Robot.Port }, func() *string { return &l.Robot.Hand },
	}[e.Kind]()
}

// place returns the element that holds a cartridge, and whether there is one.
func place(l api.Library, barcode string) (api.Element, bool) {
	for _, e := range elements(l) {
		if *in(&l, e) == barcode && barcode != "" {
			return e, true
		}
	}
	return api.Element{}, false
}

// byBarcode returns the cartridge with a barcode; nil if there is none.
func byBarcode(l api.Library, barcode string) *api.Cartridge {
	for i := range l.Cartridges {
		if l.Cartridges[i].Barcode == barcode {
			return &l.Cartridges[i]
		}
	}
	return nil
}

// clonedBlocks returns the same blocks in memory of their own.
func clonedBlocks(l []api.Block) []api.Block {
	list := slices.Clone(l)
	for i := range list {
		list[i].Data = bytes.Clone(list[i].Data)
	}
	return list
}

// clonedTape returns the same cartridge in memory of its own.
func clonedTape(c api.Cartridge) api.Cartridge {
	c.Blocks = clonedBlocks(c.Blocks)
	return c
}

// cloned returns the same library in memory of its own.
func cloned(l api.Library) api.Library {
	l.Robot.Slots, l.Drives, l.Cartridges = slices.Clone(l.Robot.Slots), slices.Clone(l.Drives), slices.Clone(l.Cartridges)
	for i, c := range l.Cartridges {
		l.Cartridges[i] = clonedTape(c)
	}
	return l
}

// sameBlocks reports whether two lists of blocks are equal; nil and empty lists are.
func sameBlocks(a, b []api.Block) bool {
	return slices.EqualFunc(a, b, func(x, y api.Block) bool {
		return x.Mark == y.Mark && x.Bad == y.Bad && bytes.Equal(x.Data, y.Data)
	})
}

// sameTape reports whether two cartridges are equal.
func sameTape(a, b api.Cartridge) bool {
	return sameBlocks(a.Blocks, b.Blocks) && a.Barcode == b.Barcode && a.Geometry == b.Geometry && a.WriteOnce == b.WriteOnce && a.Locked == b.Locked && a.Epoch == b.Epoch && a.Loads == b.Loads && a.Passes == b.Passes
}

// same reports whether two libraries are equal.
func same(a, b api.Library) bool {
	r := a.Robot.At == b.Robot.At && a.Robot.Failed == b.Robot.Failed && a.Robot.Port == b.Robot.Port && a.Robot.Hand == b.Robot.Hand && slices.Equal(a.Robot.Slots, b.Robot.Slots)
	return r && a.Model == b.Model && a.Drive == b.Drive && slices.Equal(a.Drives, b.Drives) && slices.EqualFunc(a.Cartridges, b.Cartridges, sameTape)
}

// tapeName names a cartridge in a message.
func tapeName(c api.Cartridge) string {
	return fmt.Sprintf("%q %+v write-once %t locked %t epoch %d loads %d passes %d: %s", c.Barcode, c.Geometry, c.WriteOnce, c.Locked, c.Epoch, c.Loads, c.Passes, text(c.Blocks))
}

// name names a library in a message.
func name(l api.Library) string {
	s := fmt.Sprintf("robot %+v, drive model %+v\nrobot at %d, failed %t, slots %q, port %q, hand %q\n", l.Model, l.Drive, l.Robot.At, l.Robot.Failed, l.Robot.Slots, l.Robot.Port, l.Robot.Hand)
	for i, d := range l.Drives {
		s += fmt.Sprintf("drive %d: %+v\n", i, d)
	}
	for _, c := range l.Cartridges {
		s += tapeName(c) + "\n"
	}
	return s
}

// result is what a function returns; what it does not return is zero.
type result struct {
	l           api.Library
	c           api.Cartridge
	blocks      []api.Block
	at          api.Element
	first, time int
	ok          bool
	e           api.Errno
}

// String describes a result in a message.
func (x result) String() string {
	return fmt.Sprintf("%s%s, blocks %s, element %+v, first %d, time %d, %t, error %d", name(x.l), tapeName(x.c), text(x.blocks), x.at, x.first, x.time, x.ok, x.e)
}

// equal reports whether two results are equal.
func (x result) equal(y result) bool {
	return same(x.l, y.l) && sameTape(x.c, y.c) && sameBlocks(x.blocks, y.blocks) && x.at == y.at && x.first == y.first && x.time == y.time && x.ok == y.ok && x.e == y.e
}

// check is a condition under which a call fails, and its error.
type check struct {
	fails bool
	e     api.Errno
}

// first returns the error of the first check that fails.
func first(checks ...check) api.Errno {
	for _, c := range checks {
		if c.fails {
			return c.e
		}
	}
	return api.OK
}

// between reports whether all these numbers are from least to most.
func between(least, most int, numbers ...int) bool {
	for _, n := range numbers {
		if !(n >= least && n <= most) {
			return false
		}
	}
	return true
}

// isRobotModel reports whether a model of a robot is valid.
func isRobotModel(m api.RobotModel) bool {
	return between(1, 64, m.Slots) && between(1, 8, m.Drives) && between(0, 1000, m.DriveAt, m.PortAt) && between(0, 1000000, m.Move, m.Pick, m.Put)
}

// isDriveModel reports whether a model of drives is valid.
func isDriveModel(m api.DriveModel) bool {
	return between(0, 1000000, m.Load, m.Unload, m.Clean) && between(0, 1<<50, m.CleanEvery, m.CartridgeLife)
}

// isDrive reports whether a drive is valid.
func isDrive(d api.Drive) bool {
	vacant := d.Barcode == "" && d.Head == 0
	return between(0, 2, d.State) && between(0, 1<<50, d.Loads, d.Passes, d.Since) && between(0, 4096, d.Head) && (d.State != 0 || vacant)
}

// isGeometry reports whether a geometry is valid.
func isGeometry(g api.Geometry) bool {
	return between(1, 32, g.Wraps) && between(1, 4096, g.Length) && g.Wraps*g.Length < 4097 && between(0, 1000000, g.Step, g.Turn, g.Jump, g.Stream)
}

// isBlock reports whether a block is valid.
func isBlock(b api.Block) bool {
	return b.Mark && len(b.Data) == 0 || !b.Mark && between(1, 64, len(b.Data))
}

var barcode = regexp.MustCompile(`\A[0-9A-Z]{1,24}\z`)

// isTape reports whether a cartridge is valid.
func isTape(c api.Cartridge) bool {
	for _, b := range c.Blocks {
		if !isBlock(b) {
			return false
		}
	}
	return barcode.MatchString(c.Barcode) && isGeometry(c.Geometry) && between(0, 1<<50, c.Epoch, c.Loads, c.Passes) && between(0, c.Geometry.Wraps*c.Geometry.Length, len(c.Blocks))
}

// position returns the position of an element.
func position(l api.Library, e api.Element) int {
	return [...]int{e.Index, l.Model.DriveAt + e.Index, l.Model.PortAt, l.Robot.At}[e.Kind]
}

// isValid reports whether a library is valid.
func isValid(l api.Library) bool {
	sizes := len(l.Robot.Slots) == l.Model.Slots && len(l.Drives) == l.Model.Drives && len(l.Cartridges) < 65
	if !sizes || !isRobotModel(l.Model) || !isDriveModel(l.Drive) {
		return false
	}
	end, count := 0, map[string]int{}
	for _, e := range elements(l) {
		count[*in(&l, e)]++
		if e != hand() {
			end = max(end, position(l, e))
		}
	}
	delete(count, "")
	for i, c := range l.Cartridges {
		if !isTape(c) || count[c.Barcode] != 1 || i > 0 && !(l.Cartridges[i-1].Barcode < c.Barcode) {
			return false
		}
		delete(count, c.Barcode)
	}
	for _, d := range l.Drives {
		c := byBarcode(l, d.Barcode)
		if !isDrive(d) || d.State == 1 && (c == nil || d.Head > len(c.Blocks)) {
			return false
		}
	}
	return len(count) == 0 && between(0, end, l.Robot.At)
}

// going moves the robot of a library to an element, and returns the time.
func going(l *api.Library, e api.Element) int {
	from := l.Robot.At
	l.Robot.At = position(*l, e)
	return l.Model.Move * max(l.Robot.At-from, from-l.Robot.At)
}

// increase adds n to counters.
func increase(n int, counters ...*int) {
	for _, counter := range counters {
		if *counter += n; *counter > 1<<50 {
			*counter = 1 << 50
		}
	}
}

// moving moves the head of a drive, and returns the time of going there.
func moving(l *api.Library, number, to int) int {
	d := &l.Drives[number]
	c := byBarcode(*l, d.Barcode)
	increase(serpentine.Passes(c.Geometry, d.Head, to), &d.Passes, &d.Since, &c.Passes)
	from := d.Head
	d.Head = to
	return serpentine.Locate(c.Geometry, from, to)
}

// streaming moves the head of a drive behind n blocks, and returns the time of reading or writing them.
func streaming(l *api.Library, number, n int) int {
	s := api.Span{From: l.Drives[number].Head, Count: n}
	moving(l, number, s.From+n)
	return serpentine.Read(byBarcode(*l, l.Drives[number].Barcode).Geometry, s)
}

// takingOut brings the cartridge of a drive into the first empty slot, and returns the time.
func takingOut(l *api.Library, number int) int {
	d, to := &l.Drives[number], slot(slices.Index(l.Robot.Slots, ""))
	time := moving(l, number, 0) + l.Drive.Unload + going(l, driveAt(number)) + l.Model.Pick + going(l, to) + l.Model.Put
	l.Robot.Slots[to.Index], d.Barcode, d.State = d.Barcode, "", 0
	return time
}

// bringing brings a cartridge from an element into an empty drive, and returns the time.
func bringing(l *api.Library, barcode string, from api.Element, number int) int {
	d := &l.Drives[number]
	time := 0
	if l.Drive.CleanEvery > 0 && d.Since >= l.Drive.CleanEvery {
		time, d.Since = l.Drive.Clean, 0
	}
	time += going(l, from) + l.Model.Pick + going(l, driveAt(number)) + l.Model.Put + l.Drive.Load
	*in(l, from), d.Barcode, d.State = "", barcode, 1
	increase(1, &d.Loads, &byBarcode(*l, barcode).Loads)
	return time
}

// operation is a call of one of the functions that get a library, and what it must return.
type operation struct {
	name     string
	do, want func(l api.Library) result
}

// changing returns what a function must return that fails with the first error of a library that is not valid and of the checks, and changes the library otherwise.
func changing(checks func(l api.Library) []check, change func(l *api.Library) result) func(l api.Library) result {
	return func(l api.Library) result {
		if !isValid(l) {
			return result{e: api.ErrInvalid}
		}
		if e := first(checks(l)...); e != api.OK {
			return result{e: e}
		}
		changed := cloned(l)
		x := change(&changed)
		x.l = changed
		return x
	}
}

// driveOf returns a drive of a library, and whether there is one with this number.
func driveOf(l api.Library, number int) (api.Drive, bool) {
	for i, d := range l.Drives {
		if i == number {
			return d, true
		}
	}
	return api.Drive{}, false
}

// valid is Valid.
func valid() operation {
	return operation{"Valid", func(l api.Library) result {
		return result{ok: library.Valid(l)}
	}, func(l api.Library) result {
		return result{ok: isValid(l)}
	}}
}

// where is Where of a cartridge.
func where(barcode string) operation {
	return operation{fmt.Sprintf("Where of %q", barcode), func(l api.Library) (x result) {
		x.at, x.ok = library.Where(l, barcode)
		return x
	}, func(l api.Library) (x result) {
		if isValid(l) {
			x.at, x.ok = place(l, barcode)
		}
		return x
	}}
}

// mount is Mount of a cartridge into a drive.
func mount(barcode string, number int) operation {
	return operation{fmt.Sprintf("Mount of %q into drive %d", barcode, number), func(l api.Library) (x result) {
		x.l, x.time, x.e = library.Mount(l, barcode, number)
		return x
	}, changing(func(l api.Library) []check {
		d, is := driveOf(l, number)
		from, found := place(l, barcode)
		moves := d.Barcode != barcode
		return []check{{!is, api.ErrRange}, {!found, api.ErrNotFound}, {d.State == 2, api.ErrFault}, {moves && l.Robot.Failed, api.ErrFault},
			{moves && from.Kind == 1, api.ErrBusy}, {moves && l.Robot.Hand != "", api.ErrBusy},
			{moves && d.Barcode != "" && !slices.Contains(l.Robot.Slots, ""), api.ErrFull}}
	}, func(l *api.Library) (x result) {
		if l.Drives[number].Barcode == barcode {
			return result{}
		}
		from, _ := place(*l, barcode)
		if l.Drives[number].Barcode != "" {
			x.time = takingOut(l, number)
		}
		x.time += bringing(l, barcode, from, number)
		return x
	})}
}

// dismount is Dismount of a drive.
func dismount(number int) operation {
	return operation{fmt.Sprintf("Dismount of drive %d", number), func(l api.Library) (x result) {
		x.l, x.time, x.e = library.Dismount(l, number)
		return x
	}, changing(func(l api.Library) []check {
		d, is := driveOf(l, number)
		return []check{{!is, api.ErrRange}, {d.State == 2, api.ErrFault}, {l.Robot.Failed, api.ErrFault}, {d.State == 0, api.ErrState},
			{l.Robot.Hand != "", api.ErrBusy}, {!slices.Contains(l.Robot.Slots, ""), api.ErrFull}}
	}, func(l *api.Library) result {
		return result{time: takingOut(l, number)}
	})}
}

// ready are the errors of what needs a drive that holds a cartridge.
func ready(l api.Library, number int) []check {
	d, is := driveOf(l, number)
	return []check{{!is, api.ErrRange}, {d.State == 2, api.ErrFault}, {d.State == 0, api.ErrState}}
}

// held returns the blocks of the cartridge of a drive, if it holds one.
func held(l api.Library, number int) (c api.Cartridge) {
	if d, _ := driveOf(l, number); d.Barcode != "" {
		c = *byBarcode(l, d.Barcode)
	}
	return c
}

// read is Read of a span.
func read(number int, s api.Span) operation {
	return operation{fmt.Sprintf("Read of %+v in drive %d", s, number), func(l api.Library) (x result) {
		x.l, x.blocks, x.time, x.e = library.Read(l, number, s)
		return x
	}, changing(func(l api.Library) []check {
		end := len(held(l, number).Blocks)
		return append(ready(l, number), check{s.From < 0, api.ErrRange}, check{s.Count < 1, api.ErrRange},
			check{s.From > end, api.ErrRange}, check{s.From >= 0 && s.From <= end && s.Count > end-s.From, api.ErrRange})
	}, func(l *api.Library) (x result) {
		x.time = moving(l, number, s.From)
		for _, b := range held(*l, number).Blocks[s.From:][:s.Count] {
			if b.Bad {
				x.e = api.ErrMedia
				break
			}
			x.blocks = append(x.blocks, clonedBlocks([]api.Block{b})...)
		}
		x.time += streaming(l, number, len(x.blocks))
		return x
	})}
}

// appending is Append of blocks.
func appending(number int, l []api.Block) operation {
	more := l
	return operation{fmt.Sprintf("Append of %s in drive %d", text(more), number), func(l api.Library) (x result) {
		x.l, x.first, x.time, x.e = library.Append(l, number, more)
		return x
	}, changing(func(l api.Library) []check {
		c := held(l, number)
		// The motion to the end of data counts before the cartridge is found to be worn.
		d, _ := driveOf(l, number)
		passes := c.Passes + serpentine.Passes(c.Geometry, d.Head, len(c.Blocks))
		checks := append(ready(l, number), check{l.Drive.CartridgeLife > 0 && min(passes, 1<<50) >= l.Drive.CartridgeLife, api.ErrProtected}, check{len(more) == 0, api.ErrInvalid})
		for _, b := range more {
			checks = append(checks, check{b.Bad || !isBlock(b), api.ErrInvalid})
		}
		return append(checks, check{c.Locked, api.ErrProtected}, check{len(c.Blocks)+len(more) > c.Geometry.Wraps*c.Geometry.Length, api.ErrFull})
	}, func(l *api.Library) (x result) {
		c := byBarcode(*l, l.Drives[number].Barcode)
		x.first = len(c.Blocks)
		x.time = moving(l, number, x.first)
		c.Blocks = append(c.Blocks, clonedBlocks(more)...)
		x.time += streaming(l, number, len(more))
		return x
	})}
}

// insert is Insert of a cartridge.
func insert(c api.Cartridge) operation {
	return operation{"Insert of " + tapeName(c), func(l api.Library) (x result) {
		x.l, x.e = library.Insert(l, c)
		return x
	}, changing(func(l api.Library) []check {
		return []check{{!isTape(c), api.ErrInvalid}, {byBarcode(l, c.Barcode) != nil, api.ErrExists}, {len(l.Cartridges) > 63, api.ErrFull}, {!slices.Contains(l.Robot.Slots, ""), api.ErrFull}}
	}, func(l *api.Library) result {
		l.Robot.Slots[slices.Index(l.Robot.Slots, "")] = c.Barcode
		l.Cartridges = append(l.Cartridges, clonedTape(c))
		slices.SortFunc(l.Cartridges, func(a, b api.Cartridge) int { return strings.Compare(a.Barcode, b.Barcode) })
		return result{}
	})}
}

// remove is Remove of a cartridge.
func remove(barcode string) operation {
	return operation{fmt.Sprintf("Remove of %q", barcode), func(l api.Library) (x result) {
		x.l, x.c, x.e = library.Remove(l, barcode)
		return x
	}, changing(func(l api.Library) []check {
		return []check{{byBarcode(l, barcode) == nil, api.ErrNotFound}}
	}, func(l *api.Library) result {
		c := clonedTape(*byBarcode(*l, barcode))
		e, _ := place(*l, barcode)
		*in(l, e) = ""
		if e.Kind == 1 {
			d := &l.Drives[e.Index]
			d.Head = 0
			d.State = [...]int{0, 0, 2}[d.State]
		}
		l.Cartridges = slices.DeleteFunc(l.Cartridges, func(c api.Cartridge) bool { return c.Barcode == barcode })
		return result{c: c}
	})}
}

// breaking is Break of an element.
func breaking(e api.Element) operation {
	return operation{fmt.Sprintf("Break of %+v", e), func(l api.Library) (x result) {
		x.l, x.e = library.Break(l, e)
		return x
	}, changing(func(l api.Library) []check {
		return []check{{e.Kind != 1 && e != hand(), api.ErrNotFound}, {!slices.Contains(elements(l), e), api.ErrNotFound}}
	}, func(l *api.Library) result {
		if e.Kind == 1 {
			l.Drives[e.Index].State = 2
		} else {
			l.Robot.Failed = true
		}
		return result{}
	})}
}

// service is Service.
func service() operation {
	return operation{"Service", func(l api.Library) (x result) {
		x.l, x.e = library.Service(l)
		return x
	}, changing(func(l api.Library) []check {
		return []check{{l.Robot.Hand != "" && !slices.Contains(l.Robot.Slots, ""), api.ErrFull}}
	}, func(l *api.Library) result {
		l.Robot.Failed = false
		for i := range l.Drives {
			d := &l.Drives[i]
			d.Head = 0
			if d.State == 2 {
				d.State = min(len(d.Barcode), 1)
			}
		}
		if l.Robot.Hand != "" {
			l.Robot.Slots[slices.Index(l.Robot.Slots, "")] = l.Robot.Hand
		}
		l.Robot.Hand = ""
		return result{}
	})}
}

// spans are spans of five blocks, of which the fourth one is bad, and of others.
func spans() []api.Span {
	return []api.Span{{From: 0, Count: 1}, {From: 1, Count: 2}, {From: 0, Count: 5}, {From: 3, Count: 1}, {From: 4, Count: 1}, {From: 4, Count: 2}, {From: 5, Count: 1}, {From: 5, Count: 0}, {From: 0, Count: 0}, {From: -1, Count: 2}}
}

// operations are calls of all functions, with and without errors, for libraries with these cartridges.
func operations(l api.Library, letters string) []operation {
	list := []operation{valid(), service(), where("")}
	numbers := []int{-1}
	for i := range l.Drives {
		numbers = append(numbers, i)
	}
	numbers = append(numbers, len(l.Drives))
	for _, letter := range strings.Split(letters, "") {
		list = append(list, where(letter), remove(letter), insert(tape(letter)))
		for _, number := range numbers {
			list = append(list, mount(letter, number))
		}
	}
	for _, number := range numbers {
		list = append(list, dismount(number), breaking(driveAt(number)))
		for _, s := range spans() {
			list = append(list, read(number, s))
		}
		for _, more := range []string{"", "x", "zm", "X"} {
			list = append(list, appending(number, blocks(more)))
		}
	}
	return append(list, insert(api.Cartridge{Barcode: "A"}), breaking(slot(0)), breaking(port()), breaking(hand()), breaking(api.Element{Kind: 3, Index: 1}), breaking(api.Element{Kind: 4}))
}

// try checks an operation against what it must return, that it has not changed the library, and that the library that it returns is valid; it returns its result.
func try(t *testing.T, o operation, l api.Library) result {
	t.Helper()
	before := cloned(l)
	got, want := o.do(l), o.want(before)
	if !got.equal(want) {
		t.Errorf("%s%s:\n%s\nwant %s", name(before), o.name, got, want)
	}
	if !same(l, before) {
		t.Errorf("%s%s has changed it to\n%s", name(before), o.name, name(l))
	}
	if !same(got.l, api.Library{}) && (!isValid(got.l) || !library.Valid(got.l)) {
		t.Errorf("%s%s:\n%s\nis not valid", name(l), o.name, got)
	}
	return got
}

// succeed checks an operation as try does, and that there is no error; it returns its result.
func succeed(t *testing.T, o operation, l api.Library) result {
	t.Helper()
	got := try(t, o, l)
	if got.e != api.OK {
		t.Errorf("%s%s: error %d", name(l), o.name, got.e)
	}
	return got
}

// expect checks the error of an operation, and that all its other results are zero.
func expect(t *testing.T, o operation, l api.Library, e api.Errno) {
	t.Helper()
	if got := try(t, o, l); !got.equal(result{e: e}) {
		t.Errorf("%s%s: %s, want the error %d", name(l), o.name, got, e)
	}
}

// extremes are ints that are far too small, or far too great.
func extremes() []int {
	return []int{math.MinInt, math.MinInt + 1, math.MinInt + 1000, math.MinInt / 2, -1 << 50, -1 << 32, -1000001, -64, -2, 1000001, 1 << 32, 1<<50 + 1, 1 << 62, math.MaxInt / 2, math.MaxInt - 1000, math.MaxInt - 1, math.MaxInt}
}

// TestReference checks what the other tests rely on.
func TestReference(t *testing.T) {
	if api.ElementSlot != 0 || api.ElementDrive != 1 || api.ElementPort != 2 || api.ElementHand != 3 || api.DriveEmpty != 0 || api.DriveReady != 1 || api.DriveFailed != 2 {
		t.Error("the elements or the states are not those of the tests")
	}
	for _, letters := range []string{"", "m", "M", "amczM", "abcdefghijklmnopqrstuvwxyz", "ABCDEFGHIJKLMNOPQRSTUVWXYZ"} {
		if l := blocks(letters); text(l) != letters || !sameBlocks(clonedBlocks(l), l) {
			t.Errorf("%s has become %s", letters, text(l))
		}
	}
	l := lib("B-- P H C-d!")
	states := []int{}
	for _, d := range l.Drives {
		states = append(states, d.State)
	}
	if !slices.Equal(l.Robot.Slots, []string{"B", "", ""}) || l.Robot.Port != "P" || l.Robot.Hand != "H" || !slices.Equal(states, []int{1, 0, 2, 2}) || len(l.Cartridges) != 5 || l.Cartridges[2].Barcode != "D" {
		t.Error(name(l))
	}
	if len(elements(l)) != 9 || !isValid(l) || !isValid(lib("- - - -")) || !same(cloned(l), l) {
		t.Error(name(l))
	}
	for _, x := range []struct {
		barcode string
		e       api.Element
		at      int
	}{{"B", slot(0), 0}, {"P", port(), 12}, {"H", hand(), 1}, {"C", driveAt(0), 5}, {"D", driveAt(2), 7}} {
		if e, found := place(l, x.barcode); !found || e != x.e || position(l, e) != x.at {
			t.Errorf("%s is in %+v", x.barcode, e)
		}
	}
	a := result{l: l, c: tape("A"), blocks: blocks("a")}
	for _, change := range []func(x *result){
		func(x *result) { x.l.Model.Put++ }, func(x *result) { x.l.Drive.Load++ }, func(x *result) { x.l.Robot.At++ }, func(x *result) { x.l.Robot.Failed = true }, func(x *result) { x.l.Robot.Slots[1] = "X" }, func(x *result) { x.l.Robot.Port = "" }, func(x *result) { x.l.Robot.Hand = "" },
		func(x *result) { x.l.Drives[1].Since++ }, func(x *result) { x.l.Cartridges[1].Loads++ }, func(x *result) { x.l.Cartridges[1].Passes++ }, func(x *result) { x.l.Cartridges[4].Blocks[1].Bad = true }, func(x *result) { x.l.Cartridges[4].Blocks[2].Data[63]++ }, func(x *result) { x.l.Cartridges[0].Locked = true }, func(x *result) { x.l.Cartridges[0].WriteOnce = true }, func(x *result) { x.l.Cartridges[0].Epoch++ }, func(x *result) { x.l.Cartridges[0].Geometry.Step++ },
		func(x *result) { x.c.Barcode = "B" }, func(x *result) { x.blocks = nil }, func(x *result) { x.at.Index = 1 }, func(x *result) { x.first++ }, func(x *result) { x.time++ }, func(x *result) { x.ok = true }, func(x *result) { x.e = api.ErrFull },
	} {
		b := a
		b.l = cloned(a.l)
		if !a.equal(b) {
			t.Errorf("%s is not equal to itself", a)
		}
		if change(&b); a.equal(b) || b.equal(a) {
			t.Errorf("%s is not told from %s", b, a)
		}
	}
}
