package library_test

import (
	"slices"
	"testing"

	"tapearchive/api"
	"tapearchive/library"
)

// roomyBlocks returns the same blocks with room behind them, and behind their bytes.
func roomyBlocks(l []api.Block) []api.Block {
	memory := append(clonedBlocks(l), blocks("zykma")...)
	for i, b := range memory {
		memory[i].Data = append(b.Data, "what follows the bytes"...)[:len(b.Data)]
	}
	return memory[:len(l)]
}

// roomyTapes returns the same cartridges with room behind them and in them.
func roomyTapes(l []api.Cartridge) []api.Cartridge {
	memory := append(slices.Clone(l), tape("Y"), tape("Z"))
	for i, c := range memory {
		memory[i].Blocks = roomyBlocks(c.Blocks)
	}
	return memory[:len(l)]
}

// roomy returns the same library with room behind all of its lists.
func roomy(l api.Library) api.Library {
	l.Robot.Slots = append(slices.Clone(l.Robot.Slots), "behind", "")[:len(l.Robot.Slots)]
	l.Drives = append(slices.Clone(l.Drives), api.Drive{Loads: 77}, api.Drive{})[:len(l.Drives)]
	l.Cartridges = roomyTapes(l.Cartridges)
	return l
}

// wholeBlocks returns all that is in the memory of blocks: also what is behind their ends.
func wholeBlocks(l []api.Block) []api.Block {
	list := slices.Clone(l[:cap(l)])
	for i, b := range list {
		list[i].Data = b.Data[:cap(b.Data)]
	}
	return list
}

// wholeTapes returns all that is in the memory of cartridges.
func wholeTapes(l []api.Cartridge) []api.Cartridge {
	list := slices.Clone(l[:cap(l)])
	for i, c := range list {
		list[i].Blocks = wholeBlocks(c.Blocks)
	}
	return list
}

// whole returns all that is in the memory of a library.
func whole(l api.Library) api.Library {
	l.Robot.Slots, l.Drives, l.Cartridges = l.Robot.Slots[:cap(l.Robot.Slots)], l.Drives[:cap(l.Drives)], wholeTapes(l.Cartridges)
	return l
}

// spoilBlocks changes all that is in the memory of blocks.
func spoilBlocks(l []api.Block) {
	for _, b := range wholeBlocks(l) {
		for i := range b.Data {
			b.Data[i] = ^b.Data[i]
		}
	}
	for i := range l[:cap(l)] {
		l[:cap(l)][i] = api.Block{Bad: true, Data: []byte("spoilt")}
	}
}

// spoilTapes changes all that is in the memory of cartridges.
func spoilTapes(l []api.Cartridge) {
	for i, c := range l[:cap(l)] {
		spoilBlocks(c.Blocks)
		l[:cap(l)][i] = api.Cartridge{Barcode: "spoilt"}
	}
}

// spoil changes all that is in the memory of a library.
func spoil(l api.Library) {
	spoilTapes(l.Cartridges)
	for i := range l.Robot.Slots[:cap(l.Robot.Slots)] {
		l.Robot.Slots[:cap(l.Robot.Slots)][i] = "spoilt"
	}
	for i := range l.Drives[:cap(l.Drives)] {
		l.Drives[:cap(l.Drives)][i] = api.Drive{State: 99}
	}
}

// spoilResult changes all that is in the memory of a result.
func spoilResult(x result) {
	spoil(x.l)
	spoilBlocks(x.c.Blocks)
	spoilBlocks(x.blocks)
}

// checkOwn checks that no two lists of blocks of a result share memory, nor the bytes of two blocks.
func checkOwn(t *testing.T, what string, x result) {
	t.Helper()
	lists := [][]api.Block{x.c.Blocks, x.blocks}
	for _, c := range x.l.Cartridges {
		lists = append(lists, c.Blocks)
	}
	all := slices.Concat(lists...)
	before := clonedBlocks(all)
	for i, b := range all {
		for k := range b.Data[:cap(b.Data)] {
			b.Data[:cap(b.Data)][k]++
		}
		for k := range all {
			if k != i && !sameBlocks(all[k:k+1], before[k:k+1]) {
				t.Errorf("%s: the blocks %d and %d share memory", what, i, k)
			}
		}
		for k := range b.Data[:cap(b.Data)] {
			b.Data[:cap(b.Data)][k]--
		}
	}
	for i, l := range lists {
		spoilBlocks(l)
		for _, other := range lists[i+1:] {
			for _, b := range other {
				if string(b.Data) == "spoilt" {
					t.Fatalf("%s: two lists of blocks share memory", what)
				}
			}
		}
	}
}

// checkMemory checks that a call does not change the library, also behind the ends of its lists, and that its results are new memory.
func checkMemory(t *testing.T, o operation, l api.Library) {
	t.Helper()
	want := o.want(cloned(l))
	r := roomy(l)
	before := cloned(whole(r))
	got, again, third := o.do(r), o.do(r), o.do(r)
	if !same(whole(r), before) {
		t.Fatalf("%s%s has changed it to %s", name(before), o.name, name(whole(r)))
	}
	checkOwn(t, o.name, third)
	if spoilResult(again); !got.equal(want) {
		t.Errorf("%s: two results share memory: %s, want %s", o.name, got, want)
	}
	if !same(whole(r), before) {
		t.Errorf("%s: the result shares memory with the argument", o.name)
	}
	if spoil(r); !got.equal(want) {
		t.Errorf("%s: the argument shares memory with the result: %s, want %s", o.name, got, want)
	}
}

// R3: no function changes the library that it gets, and the results are new memory.
func TestNoSharedMemory(t *testing.T) {
	for _, text := range []string{"A-B P H C-d!", "A-B P - C-d!", "AB- - - CE", "--- A - B-", "--- - - --", "ABC - H --", "B-- - - -A"} {
		l := lib(text)
		for _, o := range operations(l, "ABCHPX") {
			checkMemory(t, o, l)
		}
		l.Robot.At = -1
		for _, o := range operations(l, "A") {
			checkMemory(t, o, l)
		}
	}
}

// R3: New, Insert and Append do not change the cartridges and the blocks that they get, and their results are new memory.
func TestNoSharedArguments(t *testing.T) {
	for _, letters := range []string{"CAB", "ABC", "A", "", "AA", "ABCDE"} {
		l := roomyTapes(tapes(letters))
		before := wholeTapes(l)
		for i, c := range before {
			before[i] = clonedTape(c)
		}
		want := wantNew(robotModel(4, 2), driveModel(), tapes(letters))
		got, e := library.New(robotModel(4, 2), driveModel(), l)
		again, _ := library.New(robotModel(4, 2), driveModel(), l)
		spoil(again)
		if !slices.EqualFunc(wholeTapes(l), before, sameTape) {
			t.Errorf("%s: New has changed the cartridges, or the result shares memory with them", letters)
		}
		if spoilTapes(l); !(result{l: got, e: e}).equal(want) {
			t.Errorf("%s: New: the result shares memory with the cartridges: %s", letters, name(got))
		}
	}
	for _, letter := range []string{"A", "C", "X"} {
		c := tape(letter)
		c.Blocks = roomyBlocks(c.Blocks)
		before := clonedBlocks(wholeBlocks(c.Blocks))
		l := lib("-C- - - --")
		want := insert(tape(letter)).want(l)
		got, again := insert(c).do(l), insert(c).do(l)
		spoilResult(again)
		if !sameBlocks(wholeBlocks(c.Blocks), before) {
			t.Errorf("%s: Insert has changed the cartridge, or the result shares memory with it", letter)
		}
		if spoilBlocks(c.Blocks); !got.equal(want) {
			t.Errorf("%s: Insert: the result shares memory with the cartridge: %s", letter, got)
		}
	}
	for _, letters := range []string{"", "z", "mzk", "zzzz", "zZ"} {
		more, l := roomyBlocks(blocks(letters)), reading("am", 1)
		before := clonedBlocks(wholeBlocks(more))
		want := appending(0, blocks(letters)).want(l)
		got, again := appending(0, more).do(l), appending(0, more).do(l)
		spoilResult(again)
		if !sameBlocks(wholeBlocks(more), before) {
			t.Errorf("%s: Append has changed the blocks, or the result shares memory with them", letters)
		}
		if spoilBlocks(more); !got.equal(want) {
			t.Errorf("%s: Append: the result shares memory with the blocks: %s", letters, got)
		}
	}
}

// R3: what the arguments share among one another, the results do not.
func TestSharedInArguments(t *testing.T) {
	common := blocks("zmz")
	var l []api.Cartridge
	for _, letter := range []string{"A", "B", "F"} {
		c := tape(letter)
		c.Blocks = common
		l = append(l, c)
	}
	made, e := library.New(robotModel(4, 2), driveModel(), l)
	if e != api.OK {
		t.Fatal(e)
	}
	checkOwn(t, "New", result{l: made})
	x, shared := tape("X"), lib("-BF- - - A-")
	x.Blocks, shared.Drives[0].Head = common, 1
	for i := range shared.Cartridges {
		shared.Cartridges[i].Blocks = common
	}
	for _, o := range []operation{mount("B", 1), dismount(0), read(0, api.Span{Count: 3}), appending(0, common), insert(x), remove("A"), remove("F"), breaking(hand()), service()} {
		checkOwn(t, o.name, succeed(t, o, shared))
	}
	if text(common) != "zmz" {
		t.Error(text(common))
	}
}

// R3: what is done with one result of a call does not change what others are made of.
func TestBranches(t *testing.T) {
	l := lib("AB- - - F-")
	first := succeed(t, mount("A", 1), l)
	second := succeed(t, mount("B", 1), l)
	third := succeed(t, appending(1, blocks("k")), first.l)
	fourth := succeed(t, remove("A"), first.l)
	fifth := succeed(t, insert(tape("C")), first.l)
	for _, x := range []struct {
		l    api.Library
		text string
	}{{l, "AB- - - F-"}, {first.l, "-B- - - FA"}, {second.l, "A-- - - FB"}, {third.l, "-B- - - FA"}, {fourth.l, "-B- - - F-"}, {fifth.l, "CB- - - FA"}} {
		want := lib(x.text)
		if !slices.Equal(x.l.Robot.Slots, want.Robot.Slots) || len(x.l.Cartridges) != len(want.Cartridges) {
			t.Errorf("%s: %s", x.text, name(x.l))
		}
		for i, d := range x.l.Drives {
			if d.Barcode != want.Drives[i].Barcode {
				t.Errorf("%s: %s", x.text, name(x.l))
			}
		}
		if x.l.Cartridges[len(x.l.Cartridges)-1].Barcode != "F" {
			t.Errorf("%s: %s", x.text, name(x.l))
		}
		spoil(x.l)
	}
}

// R3: nil and empty lists are equal.
func TestNilAndEmpty(t *testing.T) {
	for _, tapes := range [][]api.Cartridge{nil, {}} {
		l := tryNew(t, robotModel(2, 1), driveModel(), tapes, api.OK)
		l.Cartridges = tapes
		expectValid(t, "a library without cartridges", l)
		for _, data := range [][]api.Block{nil, {}} {
			c := tape("A")
			c.Blocks = data
			got := succeed(t, mount("A", 0), succeed(t, insert(c), l).l)
			succeed(t, appending(0, []api.Block{{Mark: true}, {Mark: true, Data: []byte{}}}), got.l)
			expect(t, appending(0, data), got.l, api.ErrInvalid)
		}
		for _, o := range operations(l, "A") {
			try(t, o, api.Library{Robot: api.Robot{Slots: []string{}}, Drives: []api.Drive{}, Cartridges: tapes})
			try(t, o, api.Library{Cartridges: tapes})
		}
	}
}
