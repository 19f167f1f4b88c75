package label_test

import (
	"bytes"
	"slices"
	"testing"

	"tapearchive/api"
	"tapearchive/label"
)

// checkBack checks P14.5 for a label: Parse of its blocks, whatever follows them, returns it and their number.
func checkBack(t *testing.T, l api.Label, behind ...[]api.Block) {
	t.Helper()
	blocks, e := label.Blocks(l)
	if e != api.OK {
		t.Fatalf("Blocks of %+v: error %d", l, e)
	}
	for _, rest := range behind {
		got, n, e := label.Parse(slices.Concat(blocks, rest))
		if got != l || n != len(blocks) || e != api.OK {
			t.Errorf("%+v, followed by %s: %+v, %d, error %d", l, name(rest), got, n, e)
		}
	}
	for n := range len(blocks) {
		if got := parse(t, blocks[:n]); got.e == api.OK {
			t.Errorf("%d of the blocks of %+v: %+v", n, l, got)
		}
	}
}

// P14.5: many labels, and whatever follows
func TestBack(t *testing.T) {
	for _, l := range labels() {
		checkBack(t, l, behind()...)
		checkBack(t, l, blocksOf(l), framed(nil), divided(frameOf(bodyOf(l))))
	}
	var r random
	for range 3000 {
		l := randomLabel(&r, 1<<40)
		checkBack(t, l, nil, randomBlocks(&r, blocksOf(l)))
	}
}

// randomBlocks returns some of these blocks and of others, each one perhaps changed.
func randomBlocks(r *random, from []api.Block) []api.Block {
	from = slices.Concat(from, behind()[r.below(len(behind())-1)], []api.Block{mark()})
	var l []api.Block
	for range r.below(6) {
		b := from[r.below(len(from))]
		b.Data = slices.Clone(b.Data)
		switch r.below(8) {
		case 0:
			b.Mark = !b.Mark
		case 1:
			b.Bad = !b.Bad
		case 2:
			b.Data = append(b.Data, byte(r.below(3)))
		case 3:
			if len(b.Data) > 0 {
				b.Data[r.below(len(b.Data))] ^= 1 << r.below(8)
			}
		}
		l = append(l, b)
	}
	return l
}

// checkAccepted compares Parse with P14.4, and checks P14.5 for blocks that it accepts; it reports whether it does.
func checkAccepted(t *testing.T, blocks []api.Block) bool {
	t.Helper()
	got := parse(t, blocks)
	if got.e != api.OK {
		return false
	}
	want, e := label.Blocks(got.l)
	if e != api.OK || len(want) != got.n || !beginsWith(blocks, want) {
		t.Errorf("%s: Parse returns %+v, whose blocks are %s, error %d", name(blocks), got, name(want), e)
	}
	return true
}

// P14.5: random blocks
func TestAcceptedRandomBlocks(t *testing.T) {
	var r random
	accepted := 0
	for range 30000 {
		if checkAccepted(t, randomBlocks(&r, blocksOf(randomLabel(&r, 50)))) {
			accepted++
		}
	}
	if accepted < 100 {
		t.Errorf("only %d are accepted", accepted)
	}
}

// P14.4, P14.5: every byte of the body of a label is changed, with a checksum that is right.
func TestAcceptedChangedBodies(t *testing.T) {
	accepted := 0
	for _, l := range []api.Label{chapter(), {Barcode: "TAPE01", Pool: "log-1", Epoch: 300, Created: 1 << 39}, labels()[40], labels()[len(labels())-1]} {
		body := bodyOf(l)
		for at := range body {
			for x := range 256 {
				if checkAccepted(t, framed(with(body, at, byte(x)))) {
					accepted++
				}
			}
			checkAccepted(t, framed(slices.Delete(slices.Clone(body), at, at+1)))
			for _, x := range []byte{0, 1, 128, 'A', 'a'} {
				checkAccepted(t, framed(slices.Insert(slices.Clone(body), at, x)))
			}
		}
	}
	if accepted < 1000 {
		t.Errorf("only %d are accepted", accepted)
	}
}

// P14.4, P14.5: every byte of the blocks of a label is changed.
func TestAcceptedChangedBlocks(t *testing.T) {
	for _, l := range []api.Label{chapter(), labels()[len(labels())-1]} {
		for i, b := range blocksOf(l) {
			for at := range b.Data {
				for x := range 256 {
					blocks := blocksOf(l)
					blocks[i].Data[at] = byte(x)
					if checkAccepted(t, blocks) != (byte(x) == b.Data[at]) {
						t.Errorf("byte %d of block %d of %+v is %d: accepted or not", at, i, l, x)
					}
				}
			}
		}
	}
}

// P14.4, P14.5: all short bodies of some bytes behind "volume"
func TestAcceptedShortBodies(t *testing.T) {
	alphabet := []byte{0, 1, 2, 'A', 'p', 128, 255}
	accepted := 0
	for n := range 7 {
		total := 1
		for range n {
			total *= len(alphabet)
		}
		for number := range total {
			body := textOf("volume")
			for range n {
				body = append(body, alphabet[number%len(alphabet)])
				number /= len(alphabet)
			}
			if checkAccepted(t, framed(body)) {
				accepted++
			}
		}
	}
	// 1, "A", 1, "p", and two numbers of a byte: 0, 2, 'p'
	if accepted != 9 {
		t.Errorf("%d are accepted", accepted)
	}
}

// P14.5, P14.6: labels whose bytes follow one another
func TestBytesOfLabels(t *testing.T) {
	for _, l := range labels() {
		frame := frameOf(bodyOf(l))
		blocks, _ := label.Blocks(l)
		got := label.Bytes(blocks)
		if len(got)-len(frame) >= 64 || !bytes.Equal(got, append(frame, make([]byte, len(got)-len(frame))...)) {
			t.Errorf("Bytes of the blocks of %+v: %x", l, got)
		}
		if divided := label.Divide(frame); !equal(append(divided, mark()), blocks) {
			t.Errorf("%+v: Divide %s, Blocks %s", l, name(divided), name(blocks))
		}
	}
}
