package label_test

import (
	"bytes"
	"slices"
	"testing"

	"tapearchive/api"
	"tapearchive/label"
)

// roomy returns the same blocks with room behind them, and behind the data of each one.
func roomy(l []api.Block) []api.Block {
	l = append(cloned(l), data("behind"), data("them"))[:len(l)]
	for i := range l {
		n := len(l[i].Data)
		l[i].Data = append(l[i].Data, "behind"...)[:n]
	}
	return l
}

// whole returns blocks with all that is in their memory, in new memory.
func whole(l []api.Block) []api.Block {
	l = slices.Clone(l[:cap(l)])
	for i := range l {
		l[i].Data = slices.Clone(l[i].Data[:cap(l[i].Data)])
	}
	return l
}

// spoil changes all that is in the memory of blocks.
func spoil(l []api.Block) {
	l = l[:cap(l)]
	for i := range l {
		b := l[i].Data[:cap(l[i].Data)]
		for k := range b {
			b[k] = 77
		}
		l[i] = api.Block{Mark: true, Bad: true, Data: []byte("spoilt")}
	}
}

// lists are lists of blocks of all kinds.
func lists() [][]api.Block {
	long := blocksOf(labels()[len(labels())-1])
	return slices.Concat([][]api.Block{nil, {}, blocksOf(chapter()), long, long[:1], long[:2], inserted(long, 0, mark()), inserted(long, 1, api.Block{Bad: true, Data: []byte("x")}), framed([]byte("no label")), {data("ab"), data("c"), {}, data("d")}}, behind())
}

// R3: no function changes the blocks that it gets, nor what is behind them, and the results are new memory.
func TestBlocksAreNotChanged(t *testing.T) {
	for _, list := range lists() {
		l := roomy(list)
		before := whole(l)
		b, again := label.Bytes(l), label.Bytes(l)
		got := parse(t, l)
		want := bytesOf(list)
		if !equal(whole(l), before) {
			t.Errorf("%s has become %s", name(before), name(whole(l)))
		}
		for i := range again[:cap(again)] {
			again[:cap(again)][i] = 99
		}
		if !bytes.Equal(b, want) {
			t.Errorf("Bytes of %s: two results share memory", name(list))
		}
		if !equal(whole(l), before) {
			t.Errorf("Bytes of %s shares memory with them", name(list))
		}
		wanted := parseOf(list)
		if spoil(l); !bytes.Equal(b, want) || got != wanted {
			t.Errorf("%s: the results share memory with them: %x, %+v", name(list), b, got)
		}
	}
}

// R3: Divide does not change the bytes, and no two blocks share memory, with one another, with another result or with the argument.
func TestDivideSharesNoMemory(t *testing.T) {
	for _, n := range []int{0, 1, 63, 64, 65, 128, 200} {
		memory := counted(250)
		l, again := label.Divide(memory[:n]), label.Divide(memory[:n])
		if spoil(again); !equal(l, divided(counted(n))) || !bytes.Equal(memory, counted(250)) {
			t.Errorf("%d bytes: the results share memory with one another or with the bytes", n)
		}
		for i := range memory {
			memory[i] = 99
		}
		checkSeparate(t, l, divided(counted(n)))
	}
}

// checkSeparate checks that blocks are these, also after each one of them has been changed in all of its memory.
func checkSeparate(t *testing.T, l, want []api.Block) {
	t.Helper()
	if !equal(l, want) {
		t.Errorf("%s, want %s", name(l), name(want))
	}
	for i := range l {
		b := l[i].Data[:cap(l[i].Data)]
		for k := range b {
			b[k] = 55
		}
		if !equal(l[i+1:], want[i+1:]) {
			t.Errorf("block %d shares memory with one behind it: %s", i, name(l))
		}
	}
}

// R3: two results of Blocks share no memory, and neither do two blocks of one.
func TestBlocksShareNoMemory(t *testing.T) {
	for _, l := range labels() {
		blocks, _ := label.Blocks(l)
		again, _ := label.Blocks(l)
		_ = append(blocks, data("behind"))
		spoil(again)
		checkSeparate(t, blocks, blocksOf(l))
	}
}

// R3: a label does not change with the blocks from which it was read.
func TestParsedTexts(t *testing.T) {
	for _, l := range labels() {
		blocks := blocksOf(l)
		got, _, _ := label.Parse(blocks)
		spoil(blocks)
		if got != l {
			t.Errorf("%+v has become %+v", l, got)
		}
	}
}

// R3: nil and empty lists and slices are equal.
func TestNilAndEmpty(t *testing.T) {
	for _, b := range [][]byte{nil, {}, make([]byte, 0, 100)} {
		if l := label.Divide(b); len(l) != 0 {
			t.Errorf("Divide of nothing: %s", name(l))
		}
		if got := label.Bytes([]api.Block{{Data: b}}); len(got) != 0 {
			t.Errorf("Bytes of a block without data: %x", got)
		}
		blocks := blocksOf(chapter())
		blocks[1].Data = b
		accept(t, "a mark without data", blocks, chapter())
	}
	for _, l := range [][]api.Block{nil, {}, make([]api.Block, 0, 100)} {
		if got := label.Bytes(l); len(got) != 0 {
			t.Errorf("Bytes of no blocks: %x", got)
		}
		expect(t, "no blocks", l, api.ErrTruncated)
	}
}
