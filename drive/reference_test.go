package drive_test

import (
	"bytes"
	"fmt"
	"math"
	"regexp"
	"slices"
	"strings"
	"testing"

	"tapearchive/api"
	"tapearchive/drive"
)

// What the functions must return, computed along the tape block by block, and the drives and cartridges that the tests try.

// random is a sequence of numbers that is the same in each run.
type random uint64

// number returns the next number, of 64 bits.
func (r *random) number() uint64 {
	*r = *r*6364136223846793005 + 1442695040888963407
	x := uint64(*r)
	return (x ^ x>>33) * 0xFF51AFD7ED558CCD
}

// below returns the next number, from 0 to n - 1.
func (r *random) below(n int) int { return int(r.number() >> 1 % uint64(n)) }

// letters returns n letters for blocks, all of them among these.
func (r *random) letters(n int, among string) string {
	b := make([]byte, n)
	for i := range b {
		b[i] = among[r.below(len(among))]
	}
	return string(b)
}

// blocks returns a block for each letter: m and M are marks, any other letter stands for data, of one byte or more. A capital letter is Bad.
func blocks(letters string) []api.Block {
	var l []api.Block
	for _, letter := range []byte(letters) {
		lower := letter | 0x20
		b := api.Block{Bad: letter != lower}
		if lower == 'm' {
			b.Mark = true
		} else {
			b.Data = bytes.Repeat([]byte{lower}, sizeOf(lower))
		}
		l = append(l, b)
	}
	return l
}

// sizeOf returns the number of bytes of the data for a letter: 1 for a, 64 for z.
func sizeOf(letter byte) int {
	switch {
	case letter < 'a' || letter > 'z': // no letter, in a message
		return 0
	case letter == 'y':
		return 63
	case letter == 'z':
		return 64
	}
	return int(letter-'a') + 1
}

// text returns the letters of blocks; a block that no letter stands for is written as ?.
func text(l []api.Block) string {
	s := ""
	for _, b := range l {
		letter := "m"
		if len(b.Data) > 0 {
			letter = string(b.Data[:1])
		}
		if b.Bad {
			letter = strings.ToUpper(letter)
		}
		if !sameBlocks([]api.Block{b}, blocks(letter)) {
			letter = "?"
		}
		s += letter
	}
	return s
}

// chapter returns the geometry of the chapter's example: 2 wraps of 10 blocks.
func chapter() api.Geometry {
	return api.Geometry{Wraps: 2, Length: 10, Step: 1, Turn: 5, Jump: 3, Stream: 2}
}

// geometry returns one with these sizes, whose times are so different that no two sums of a few of them are equal.
func geometry(wraps, length int) api.Geometry {
	return api.Geometry{Wraps: wraps, Length: length, Step: 1, Turn: 700000, Jump: 10007, Stream: 203}
}

// model returns a model without limits of passes, whose times are all different.
func model() api.DriveModel { return api.DriveModel{Load: 40, Unload: 31, Clean: 22} }

// holding returns a cartridge with this geometry and these blocks, whose other numbers are all different.
func holding(g api.Geometry, letters string) api.Cartridge {
	return api.Cartridge{Barcode: "TAPE01", Geometry: g, Blocks: blocks(letters), Epoch: 7, Loads: 12, Passes: 3456}
}

// empty returns a drive that holds nothing, whose counters are all different.
func empty() api.Drive { return api.Drive{Loads: 55, Passes: 70007, Since: 808} }

// ready returns a drive that holds the cartridge of holding, with this head.
func ready(head int) api.Drive {
	d := empty()
	d.State, d.Barcode, d.Head = api.DriveReady, "TAPE01", head
	return d
}

// broken returns a drive that holds the same and is out of order.
func broken(head int) api.Drive {
	d := ready(head)
	d.State = api.DriveFailed
	return d
}

// clonedBlocks returns the same blocks in memory of their own.
func clonedBlocks(l []api.Block) []api.Block {
	list := slices.Clone(l)
	for i := range list {
		list[i].Data = bytes.Clone(list[i].Data)
	}
	return list
}

// cloned returns the same cartridge in memory of its own.
func cloned(c api.Cartridge) api.Cartridge {
	c.Blocks = clonedBlocks(c.Blocks)
	return c
}

// sameBlocks reports whether two lists of blocks are equal; nil and empty lists are.
func sameBlocks(a, b []api.Block) bool {
	return slices.EqualFunc(a, b, func(x, y api.Block) bool {
		return x.Mark == y.Mark && x.Bad == y.Bad && bytes.Equal(x.Data, y.Data)
	})
}

// same reports whether two cartridges are equal.
func same(a, b api.Cartridge) bool {
	return sameBlocks(a.Blocks, b.Blocks) && a.Barcode == b.Barcode && a.Geometry == b.Geometry && a.WriteOnce == b.WriteOnce && a.Locked == b.Locked && a.Epoch == b.Epoch && a.Loads == b.Loads && a.Passes == b.Passes
}

// name names a cartridge in a message.
func name(c api.Cartridge) string {
	flags := ""
	if c.WriteOnce {
		flags += " write-once"
	}
	if c.Locked {
		flags += " locked"
	}
	return fmt.Sprintf("%q %+v%s epoch %d loads %d passes %d: %s", c.Barcode, c.Geometry, flags, c.Epoch, c.Loads, c.Passes, text(c.Blocks))
}

// result is what an operation returns; the fields that it does not return are zero.
type result struct {
	d    api.Drive
	c    api.Cartridge
	l    []api.Block
	time int
	e    api.Errno
}

// String describes a result in a message.
func (r result) String() string {
	return fmt.Sprintf("%+v, %s, blocks %s, time %d, error %d", r.d, name(r.c), text(r.l), r.time, r.e)
}

// equal reports whether two results are equal.
func (r result) equal(s result) bool {
	return r.d == s.d && same(r.c, s.c) && sameBlocks(r.l, s.l) && r.time == s.time && r.e == s.e
}

// check is a condition under which a call fails, and its error.
type check struct {
	fails bool
	e     api.Errno
}

// first returns the error of the first check that fails.
func first(checks []check) api.Errno {
	for _, c := range checks {
		if c.fails {
			return c.e
		}
	}
	return api.OK
}

// inside reports whether n is from 0 to most.
func inside(n, most int) bool { return n >= 0 && n < most+1 }

// isModel reports whether a model is valid.
func isModel(m api.DriveModel) bool {
	return inside(m.Load, 1000000) && inside(m.Unload, 1000000) && inside(m.Clean, 1000000) && inside(m.CleanEvery, 1<<50) && inside(m.CartridgeLife, 1<<50)
}

// isDrive reports whether a drive is valid.
func isDrive(d api.Drive) bool {
	known := d.State == api.DriveEmpty || d.State == api.DriveReady || d.State == api.DriveFailed
	vacant := d.Barcode == "" && d.Head == 0
	return known && inside(d.Loads, 1<<50) && inside(d.Passes, 1<<50) && inside(d.Since, 1<<50) && inside(d.Head, 4096) && (d.State != api.DriveEmpty || vacant)
}

// isGeometry reports whether a geometry is valid.
func isGeometry(g api.Geometry) bool {
	sizes := g.Wraps > 0 && g.Wraps < 33 && g.Length > 0 && g.Length < 4097 && g.Wraps*g.Length < 4097
	return sizes && inside(g.Step, 1000000) && inside(g.Turn, 1000000) && inside(g.Jump, 1000000) && inside(g.Stream, 1000000)
}

// isBlock reports whether a block is valid.
func isBlock(b api.Block) bool {
	return b.Mark && len(b.Data) == 0 || !b.Mark && len(b.Data) > 0 && len(b.Data) < 65
}

var barcode = regexp.MustCompile(`\A[0-9A-Z]{1,24}\z`)

// isCartridge reports whether a cartridge is valid.
func isCartridge(c api.Cartridge) bool {
	for _, b := range c.Blocks {
		if !isBlock(b) {
			return false
		}
	}
	counters := inside(c.Epoch, 1<<50) && inside(c.Loads, 1<<50) && inside(c.Passes, 1<<50)
	return counters && barcode.MatchString(c.Barcode) && isGeometry(c.Geometry) && len(c.Blocks) < c.Geometry.Wraps*c.Geometry.Length+1
}

// positions returns the positions of all blocks of a tape, and behind them that behind the last block.
func positions(g api.Geometry) []int {
	var l []int
	at, step := 0, 1
	for range g.Wraps {
		for range g.Length {
			l = append(l, at)
			at += step
		}
		at, step = at-step, -step // the next wrap begins where this one ends
	}
	return append(l, at-step)
}

// wrap returns the wrap of a block, or of the place behind the last one.
func wrap(g api.Geometry, block int) int { return min(block/g.Length, g.Wraps-1) }

// going returns the time of going from one block to another one.
func going(g api.Geometry, from, to int) int {
	if from == to {
		return 0
	}
	way := positions(g)[to] - positions(g)[from]
	jumps := wrap(g, to) - wrap(g, from)
	time := 0
	if way > 0 && wrap(g, to)%2 == 1 || way < 0 && wrap(g, to)%2 == 0 || way == 0 && jumps%2 != 0 {
		time = g.Turn
	}
	for ; way > 0; way-- {
		time += g.Step
	}
	for ; way < 0; way++ {
		time += g.Step
	}
	for ; jumps > 0; jumps-- {
		time += g.Jump
	}
	for ; jumps < 0; jumps++ {
		time += g.Jump
	}
	return time
}

// streaming returns the time of reading or writing n blocks.
func streaming(g api.Geometry, from, n int) int {
	time := 0
	for block := from; block < from+n; block++ {
		time += g.Stream
		if block > from && wrap(g, block) > wrap(g, block-1) {
			time += g.Jump + g.Turn
		}
	}
	return time
}

// parts returns the parts of 1000 of an end-to-end pass between two blocks, rounded up.
func parts(g api.Geometry, from, to int) int {
	way := positions(g)[to] - positions(g)[from]
	if way < 0 {
		way = -way
	}
	n := 0
	for n*g.Length < way*1000 {
		n++
	}
	return n
}

// increased returns a counter to which n is added.
func increased(counter, n int) int {
	if counter > 1<<50-n {
		return 1 << 50
	}
	return counter + n
}

// moved returns a drive and its cartridge after a motion.
func moved(d api.Drive, c api.Cartridge, to int) result {
	n := parts(c.Geometry, d.Head, to)
	d.Head, d.Passes, d.Since = to, increased(d.Passes, n), increased(d.Since, n)
	c.Passes = increased(c.Passes, n)
	return result{d: d, c: cloned(c)}
}

// operation is a call of one of the functions, and what it must return.
type operation struct {
	name     string
	do, want func(m api.DriveModel, d api.Drive, c api.Cartridge) result
}

// valids are the first errors of all functions.
func valids(m api.DriveModel, d api.Drive, c api.Cartridge) []check {
	return []check{{!isModel(m), api.ErrInvalid}, {!isDrive(d), api.ErrInvalid}, {!isCartridge(c), api.ErrInvalid}, {d.State == api.DriveFailed, api.ErrFault}}
}

// after returns what a function must return: the error of the first checks or of the others, or else the result.
func after(others func(m api.DriveModel, d api.Drive, c api.Cartridge) []check, then func(m api.DriveModel, d api.Drive, c api.Cartridge) result) func(m api.DriveModel, d api.Drive, c api.Cartridge) result {
	return func(m api.DriveModel, d api.Drive, c api.Cartridge) result {
		e := first(append(valids(m, d, c), check{d.State == api.DriveEmpty, api.ErrState}, check{d.Barcode != c.Barcode, api.ErrNotFound}, check{d.Head > len(c.Blocks), api.ErrInvalid}))
		if e == api.OK && others != nil {
			e = first(others(m, d, c))
		}
		if e != api.OK {
			return result{e: e}
		}
		return then(m, d, c)
	}
}

// load is Load.
func load() operation {
	return operation{"Load", func(m api.DriveModel, d api.Drive, c api.Cartridge) (r result) {
		r.d, r.c, r.time, r.e = drive.Load(m, d, c)
		return r
	}, func(m api.DriveModel, d api.Drive, c api.Cartridge) result {
		due := m.CleanEvery > 0 && d.Since >= m.CleanEvery
		if e := first(append(valids(m, d, c), check{d.State == api.DriveReady, api.ErrBusy}, check{due, api.ErrState})); e != api.OK {
			return result{e: e}
		}
		c = cloned(c)
		c.Loads = increased(c.Loads, 1)
		return result{d: api.Drive{State: api.DriveReady, Barcode: c.Barcode, Loads: increased(d.Loads, 1), Passes: d.Passes, Since: d.Since}, c: c, time: m.Load}
	}}
}

// unload is Unload.
func unload() operation {
	return operation{"Unload", func(m api.DriveModel, d api.Drive, c api.Cartridge) (r result) {
		r.d, r.c, r.time, r.e = drive.Unload(m, d, c)
		return r
	}, after(nil, func(m api.DriveModel, d api.Drive, c api.Cartridge) result {
		r := moved(d, c, 0)
		r.d.State, r.d.Barcode, r.time = api.DriveEmpty, "", m.Unload+going(c.Geometry, d.Head, 0)
		return r
	})}
}

// seek is Seek of a block.
func seek(to int) operation {
	return operation{fmt.Sprint("Seek to ", to), func(m api.DriveModel, d api.Drive, c api.Cartridge) (r result) {
		r.d, r.c, r.time, r.e = drive.Seek(m, d, c, to)
		return r
	}, after(func(m api.DriveModel, d api.Drive, c api.Cartridge) []check {
		return []check{{to < 0, api.ErrRange}, {to > len(c.Blocks), api.ErrRange}}
	}, func(m api.DriveModel, d api.Drive, c api.Cartridge) result {
		r := moved(d, c, to)
		r.time = going(c.Geometry, d.Head, to)
		return r
	})}
}

// read is Read of n blocks.
func read(n int) operation {
	return operation{fmt.Sprint("Read of ", n), func(m api.DriveModel, d api.Drive, c api.Cartridge) (r result) {
		r.d, r.c, r.l, r.time, r.e = drive.Read(m, d, c, n)
		return r
	}, after(func(m api.DriveModel, d api.Drive, c api.Cartridge) []check {
		return []check{{n < 1, api.ErrRange}, {n > len(c.Blocks)-d.Head, api.ErrRange}}
	}, func(m api.DriveModel, d api.Drive, c api.Cartridge) result {
		var l []api.Block
		e := api.OK
		for _, b := range cloned(c).Blocks[d.Head : d.Head+n] {
			if b.Bad {
				e = api.ErrMedia
			}
			if e == api.OK {
				l = append(l, b)
			}
		}
		r := moved(d, c, d.Head+len(l))
		r.l, r.time, r.e = l, streaming(c.Geometry, d.Head, len(l)), e
		return r
	})}
}

// write is Write of blocks.
func write(l []api.Block) operation {
	return operation{"Write of " + text(l), func(m api.DriveModel, d api.Drive, c api.Cartridge) (r result) {
		r.d, r.c, r.time, r.e = drive.Write(m, d, c, l)
		return r
	}, after(func(m api.DriveModel, d api.Drive, c api.Cartridge) []check {
		checks := []check{{m.CartridgeLife > 0 && c.Passes >= m.CartridgeLife, api.ErrProtected}, {len(l) == 0, api.ErrInvalid}}
		for _, b := range l {
			checks = append(checks, check{b.Bad || !isBlock(b), api.ErrInvalid})
		}
		once := c.WriteOnce && d.Head < len(c.Blocks)
		return append(checks, check{c.Locked || once, api.ErrProtected}, check{d.Head+len(l) > c.Geometry.Wraps*c.Geometry.Length, api.ErrFull})
	}, func(m api.DriveModel, d api.Drive, c api.Cartridge) result {
		r := moved(d, c, d.Head+len(l))
		r.c.Blocks = slices.Concat(cloned(c).Blocks[:d.Head], clonedBlocks(l))
		r.time = streaming(c.Geometry, d.Head, len(l))
		return r
	})}
}

// clean is Clean.
func clean() operation {
	return operation{"Clean", func(m api.DriveModel, d api.Drive, c api.Cartridge) (r result) {
		r.d, r.time, r.e = drive.Clean(m, d)
		return r
	}, func(m api.DriveModel, d api.Drive, c api.Cartridge) result {
		if e := first(append(valids(m, d, holding(chapter(), "")), check{d.State == api.DriveReady, api.ErrBusy})); e != api.OK {
			return result{e: e}
		}
		return result{d: api.Drive{Loads: d.Loads, Passes: d.Passes}, time: m.Clean}
	}}
}

// operations returns calls of all functions, with and without errors, for cartridges of up to n blocks.
func operations(n int) []operation {
	l := []operation{load(), unload(), clean()}
	for k := -1; k <= n+1; k++ {
		l = append(l, seek(k), read(k))
	}
	for _, letters := range []string{"", "a", "mz", "xX", "bcmdezfgmhi"} {
		l = append(l, write(blocks(letters)))
	}
	return append(l, write([]api.Block{{}}))
}

// try checks an operation against what it must return, and returns its result.
func try(t *testing.T, o operation, m api.DriveModel, d api.Drive, c api.Cartridge) result {
	t.Helper()
	got, want := o.do(m, d, c), o.want(m, d, c)
	if !got.equal(want) {
		t.Errorf("%+v, %+v, %s: %s:\n%s\nwant %s", m, d, name(c), o.name, got, want)
	}
	if (got.e == api.OK || got.e == api.ErrMedia) && (!isDrive(got.d) || got.c.Barcode != "" && !isCartridge(got.c)) {
		t.Errorf("%+v, %+v, %s: %s:\n%s\nis not valid", m, d, name(c), o.name, got)
	}
	return got
}

// expect checks the error of an operation, and that all its other results are zero.
func expect(t *testing.T, o operation, m api.DriveModel, d api.Drive, c api.Cartridge, e api.Errno) {
	t.Helper()
	if got := o.do(m, d, c); !got.equal(result{e: e}) {
		t.Errorf("%+v, %+v, %s: %s: %s, want the error %d", m, d, name(c), o.name, got, e)
	}
}

// extremes are ints that are far too small, or far too great.
func extremes() []int {
	return []int{math.MinInt, math.MinInt + 1, math.MinInt + 4096, math.MinInt / 2, -1 << 50, -1 << 32, -4096, 1<<50 + 1, 1 << 51, 1 << 62, math.MaxInt / 2, math.MaxInt - 4096, math.MaxInt - 1, math.MaxInt}
}

// TestReference checks what the other tests rely on.
func TestReference(t *testing.T) {
	for _, letters := range []string{"", "m", "M", "amczM", "abcdefghijklmnopqrstuvwxyz", "ABCDEFGHIJKLMNOPQRSTUVWXYZ"} {
		if l := blocks(letters); text(l) != letters || !sameBlocks(clonedBlocks(l), l) {
			t.Errorf("%s has become %s", letters, text(l))
		}
	}
	g := chapter()
	if got := positions(g); !slices.Equal(got, []int{0, 1, 2, 3, 4, 5, 6, 7, 8, 9, 9, 8, 7, 6, 5, 4, 3, 2, 1, 0, -1}) {
		t.Error(got)
	}
	if got := positions(api.Geometry{Wraps: 3, Length: 2}); !slices.Equal(got, []int{0, 1, 1, 0, 0, 1, 2}) {
		t.Error(got)
	}
	// The examples of layer 9
	if got := []int{going(g, 0, 9), going(g, 9, 10), going(g, 5, 2), going(g, 0, 19), going(g, 19, 0), going(g, 9, 20), going(g, 20, 10), going(g, 0, 10), streaming(g, 8, 4), parts(g, 0, 9)}; !slices.Equal(got, []int{9, 8, 8, 8, 8, 13, 15, 17, 16, 900}) {
		t.Error(got)
	}
	if parts(geometry(1, 3), 0, 1) != 334 || parts(geometry(1, 3), 2, 0) != 667 || parts(geometry(1, 3), 0, 3) != 1000 || parts(g, 4, 4) != 0 {
		t.Error("the parts of a pass are not right")
	}
	a, b := result{d: ready(0), c: holding(g, "am")}, result{d: ready(0), c: holding(g, "am")}
	if !isModel(model()) || !isDrive(empty()) || !isDrive(ready(0)) || !isDrive(broken(4096)) || !isCartridge(a.c) || !a.equal(b) {
		t.Error("the tests' arguments are not valid")
	}
	for _, change := range []func(r *result){func(r *result) { r.d.Head = 1 }, func(r *result) { r.c.Loads++ }, func(r *result) { r.c.Blocks[1].Bad = true }, func(r *result) { r.l = blocks("a") }, func(r *result) { r.time = 1 }, func(r *result) { r.e = api.ErrRange }} {
		b := result{d: ready(0), c: holding(g, "am")}
		if change(&b); a.equal(b) || b.equal(a) {
			t.Errorf("%s is not told from %s", b, a)
		}
	}
}
