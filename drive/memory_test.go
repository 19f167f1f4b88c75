package drive_test

import (
	"fmt"
	"slices"
	"strings"
	"testing"

	"tapearchive/api"
)

// roomy returns blocks with room behind them, and behind their bytes.
func roomy(letters string) []api.Block {
	memory := blocks(letters + "zykma")
	for i, b := range memory {
		memory[i].Data = append(b.Data, "what follows the bytes"...)[:len(b.Data)]
	}
	return memory[:len(letters)]
}

// whole returns all that is in the memory of blocks: also what is behind their ends.
func whole(l []api.Block) []api.Block {
	list := slices.Clone(l[:cap(l)])
	for i, b := range list {
		list[i].Data = b.Data[:cap(b.Data)]
	}
	return list
}

// spoil changes all that is in the memory of blocks.
func spoil(l []api.Block) {
	for _, b := range whole(l) {
		for i := range b.Data {
			b.Data[i] = ^b.Data[i]
		}
	}
	for i := range l[:cap(l)] {
		l[:cap(l)][i] = api.Block{Bad: true, Data: []byte("spoilt")}
	}
}

// checkOwn checks that no two blocks of a list share memory.
func checkOwn(t *testing.T, what string, l []api.Block) {
	t.Helper()
	before := clonedBlocks(l)
	for i, b := range l {
		for k := range b.Data[:cap(b.Data)] {
			b.Data[:cap(b.Data)][k]++
		}
		for k := range l {
			if k != i && !sameBlocks(l[k:k+1], before[k:k+1]) {
				t.Errorf("%s: the blocks %d and %d share memory", what, i, k)
			}
		}
		for k := range b.Data[:cap(b.Data)] {
			b.Data[:cap(b.Data)][k]--
		}
	}
}

// checkMemory checks a call with blocks that have room behind them. of returns the operation, with the blocks that it writes.
func checkMemory(t *testing.T, of func(l []api.Block) operation, d api.Drive, letters, more string) {
	t.Helper()
	l, c := roomy(more), holding(geometry(2, 3), "")
	c.Blocks = roomy(letters)
	what := fmt.Sprintf("%+v, %s: %s", d, letters, of(l).name)
	want := of(blocks(more)).want(model(), d, holding(geometry(2, 3), letters))
	cBefore, lBefore := clonedBlocks(whole(c.Blocks)), clonedBlocks(whole(l))
	got := of(l).do(model(), d, c)
	again := of(l).do(model(), d, c)
	if !got.equal(want) {
		t.Errorf("%s: %s, want %s", what, got, want)
	}
	checkOwn(t, what, append(slices.Clone(got.c.Blocks), got.l...))
	spoil(again.c.Blocks)
	if !sameBlocks(again.l, want.l) {
		t.Errorf("%s: the blocks that were read share memory with the cartridge", what)
	}
	spoil(again.l)
	if !got.equal(want) {
		t.Errorf("%s: two results share memory", what)
	}
	if !sameBlocks(whole(c.Blocks), cBefore) || !sameBlocks(whole(l), lBefore) {
		t.Errorf("%s: the arguments have changed, or a result shares memory with them", what)
	}
	spoil(c.Blocks)
	spoil(l)
	if !got.equal(want) {
		t.Errorf("%s: the result shares memory with the arguments", what)
	}
}

// R3: no function changes its arguments, also behind their ends, and the results are new memory.
func TestNoSharedMemory(t *testing.T) {
	for _, letters := range []string{"", "z", "amczm", "aMCzm", "m", "MMb", "zzzzzz"} {
		for _, o := range operations(6) {
			for _, d := range []api.Drive{empty(), ready(0), ready(1), ready(len(letters)), broken(0)} {
				checkMemory(t, func([]api.Block) operation { return o }, d, letters, "")
			}
		}
		for _, more := range []string{"x", "mzk", "zzzzzz", "zZ", ""} {
			for head := range 7 {
				checkMemory(t, write, ready(head), letters, more)
			}
		}
	}
}

// R3: what is done with one result of a call does not change what others are made of.
func TestBranches(t *testing.T) {
	c := holding(chapter(), "amzk")
	first := write(blocks("yyy")).do(model(), ready(2), c)
	second := write(blocks("bb")).do(model(), ready(2), c)
	sought := seek(3).do(model(), ready(2), c)
	appended := write(blocks("x")).do(model(), ready(4), sought.c)
	got := read(4).do(model(), ready(0), sought.c)
	for _, x := range []struct {
		l    []api.Block
		want string
	}{{c.Blocks, "amzk"}, {first.c.Blocks, "amyyy"}, {second.c.Blocks, "ambb"}, {sought.c.Blocks, "amzk"}, {appended.c.Blocks, "amzkx"}, {got.l, "amzk"}, {got.c.Blocks, "amzk"}} {
		if text(x.l) != x.want {
			t.Errorf("%s, want %s", text(x.l), x.want)
		}
		spoil(x.l)
	}
}

// R3: the blocks that are written may be those of the cartridge itself, and one block may be in a list many times.
func TestOwnBlocks(t *testing.T) {
	for head := range 6 {
		for from := range 6 {
			for to := from + 1; to <= 5; to++ {
				c := holding(chapter(), "amczm")
				got := write(c.Blocks[from:to]).do(model(), ready(head), c)
				want := "amczm"[:head] + "amczm"[from:to]
				if got.e != api.OK || text(got.c.Blocks) != want || text(c.Blocks) != "amczm" {
					t.Errorf("the blocks %d to %d at %d: %s", from, to, head, got)
				}
				checkOwn(t, "own blocks", got.c.Blocks)
				spoil(c.Blocks)
				if text(got.c.Blocks) != want {
					t.Errorf("the blocks %d to %d at %d: the result shares memory with the argument", from, to, head)
				}
			}
		}
	}
	c := holding(chapter(), "")
	c.Blocks = slices.Repeat(blocks("z"), 3)
	for _, o := range []operation{seek(1), unload(), read(3), write(slices.Repeat(blocks("y"), 3))} {
		got := o.do(model(), ready(0), c)
		checkOwn(t, o.name, append(slices.Clone(got.c.Blocks), got.l...))
	}
	checkOwn(t, "Load", load().do(model(), empty(), c).c.Blocks)
}

// R3: nil and empty lists are equal.
func TestNilAndEmpty(t *testing.T) {
	for _, l := range [][]api.Block{nil, {}} {
		c := holding(chapter(), "")
		c.Blocks = l
		for _, o := range []operation{seek(0), unload(), write(blocks(strings.Repeat("m", 20)))} {
			if got := try(t, o, model(), ready(0), c); got.e != api.OK {
				t.Errorf("%s: %s", o.name, got)
			}
		}
		if got := try(t, load(), model(), empty(), c); got.e != api.OK || len(got.c.Blocks) > 0 {
			t.Errorf("Load: %s", got)
		}
	}
	c := holding(chapter(), "")
	c.Blocks = []api.Block{{Mark: true}, {Mark: true, Data: []byte{}}}
	if got := try(t, read(2), model(), ready(0), c); got.e != api.OK || text(got.l) != "mm" {
		t.Errorf("%s", got)
	}
}
