package volume_test

import (
	"bytes"
	"fmt"
	"math"
	"slices"
	"testing"

	"tapearchive/api"
	"tapearchive/container"
)

// gives checks that Load returns the blocks of a container that was found, and Payload its header and payload.
func gives(t *testing.T, what string, c api.Cartridge, f api.Found, b built) {
	t.Helper()
	f.Barcode, f.Epoch = c.Barcode, c.Epoch
	if got := load(t, what, c, f); got.e != api.OK || !sameBlocks(got.l, b.l) {
		t.Errorf("%s: Load of %s, %s: %s", what, name(c), short(f), short(got))
	}
	if got := pay(t, what, c, f.First); got.e != api.OK || !sameHeader(got.h, b.h) || !bytes.Equal(got.payload, b.payload) {
		t.Errorf("%s: Payload of %s at %d: %s", what, name(c), f.First, short(got))
	}
}

// keeps checks that Load returns an error, and no blocks with it.
func keeps(t *testing.T, what string, c api.Cartridge, f api.Found, want api.Errno) {
	t.Helper()
	if got := load(t, what, c, f); got.e != want || len(got.l) != 0 {
		t.Errorf("%s: Load of %s, %s: %s, want the error %d", what, name(c), short(f), short(got), want)
	}
}

// owes checks that Payload returns an error, and zero values with it.
func owes(t *testing.T, what string, c api.Cartridge, first int, want api.Errno) {
	t.Helper()
	if got := pay(t, what, c, first); got.e != want || len(got.payload) != 0 || !sameHeader(got.h, api.Header{}) {
		t.Errorf("%s: Payload of %s at %d: %s, want the error %d", what, name(c), first, short(got), want)
	}
}

// span returns what Load is called with for blocks of a cartridge.
func span(c api.Cartridge, first, count int) api.Found {
	return api.Found{Barcode: c.Barcode, Epoch: c.Epoch, First: first, Count: count}
}

// P18.5: each container that was found, also without its header
func TestLoadOfContainers(t *testing.T) {
	var parts [][]api.Block
	all := containers()
	for _, b := range all {
		parts = append(parts, b.marked())
	}
	c := holding(parts...)
	for i, f := range find(t, "all containers", c).list {
		gives(t, "a container that was found", c, f, all[i])
		gives(t, "its place alone", c, span(c, f.First, f.Count), all[i])
		f.Header.ID, f.Header.Size = -1, -1
		gives(t, "another header", c, f, all[i])
	}
}

// P18.5: Load reads any span, whatever its blocks are, and also without a label.
func TestLoadOfAnySpan(t *testing.T) {
	c := blank(20)
	c.Blocks = slices.Concat(sample().marked(), one(data("x")), one(mark()), one(mark()))
	for _, x := range []named{{"no label", c}, {"a label", sized(20, c.Blocks)}} {
		end := len(x.c.Blocks)
		for first := range end + 1 {
			for count := range end - first + 1 {
				if got := load(t, x.name, x.c, span(x.c, first, count)); got.e != api.OK || !sameBlocks(got.l, x.c.Blocks[first:first+count]) {
					t.Errorf("%s: %d from %d on: %s", x.name, count, first, short(got))
				}
			}
		}
	}
}

// P18.5: spans that begin or end outside of the blocks, up to the greatest and the least int
func TestSpansOutside(t *testing.T) {
	numbers := []int{math.MinInt, math.MinInt + 1, -1 << 50, -2, -1, 0, 1, 2, 5, 6, 7, 8, 4096, 1 << 50, math.MaxInt - 7, math.MaxInt - 1, math.MaxInt}
	for _, c := range []api.Cartridge{blank(20), holding(), holding(sample().marked()), sized(7, sample().marked())} {
		end := len(c.Blocks)
		for _, first := range append(numbers, end-1, end, end+1) {
			for _, count := range append(numbers, end, end-1, end+1) {
				f := span(c, first, count)
				switch {
				case first < 0 || count < 0:
					keeps(t, "negative", c, f, api.ErrRange)
				case count == 0:
					if got := load(t, "no blocks", c, f); got.e != api.OK || len(got.l) != 0 {
						t.Errorf("no blocks at %d: %s", first, short(got))
					}
				case first > end || count > end-first:
					keeps(t, "outside", c, f, api.ErrRange)
				default:
					if got := load(t, "inside", c, f); got.e != api.OK || len(got.l) != count {
						t.Errorf("%d blocks at %d: %s", count, first, short(got))
					}
				}
			}
		}
	}
}

// P18.5: other barcodes and epochs
func TestLoadFromOtherCartridges(t *testing.T) {
	c := holding(sample().marked())
	for _, first := range []int{-1, 0, 2, 99} {
		for _, barcode := range []string{"", "A", "A2", "a1", "A11", "1A", "A1 "} {
			f := span(c, first, 4)
			f.Barcode = barcode
			keeps(t, "another barcode", c, f, api.ErrStale)
			f.Epoch = 8
			keeps(t, "another barcode and epoch", c, f, api.ErrStale)
		}
		for _, epoch := range []int{math.MinInt, -7, -1, 0, 6, 8, 1<<50 + 7, math.MaxInt} {
			f := span(c, first, 4)
			f.Epoch = epoch
			keeps(t, "another epoch", c, f, api.ErrStale)
			f.Count = 0
			keeps(t, "another epoch without blocks", c, f, api.ErrStale)
		}
	}
	keeps(t, "the zero container", c, api.Found{}, api.ErrStale)
	c.Epoch = 8
	keeps(t, "the epoch of the cartridge has changed", c, sample().found(2), api.ErrStale)
	c.Epoch = 7
	gives(t, "the epoch of the cartridge is the same again", c, sample().found(2), sample())
}

// P18.5: a label of another cartridge or epoch plays no part.
func TestLoadWithoutLabel(t *testing.T) {
	for _, x := range unlabeled() {
		if n := len(x.c.Blocks); n > 0 {
			gives(t, x.name, x.c, few()[1].found(n-3), few()[1])
		}
	}
}

// P18.5: bad blocks at each place of the span, and outside of it
func TestLoadOfBadBlocks(t *testing.T) {
	for _, b := range append(few(), containers()...) {
		n := len(b.l)
		whole := holding(b.marked())
		for at := range whole.Blocks {
			c := whole
			c.Blocks = changed(whole.Blocks, at, bad)
			if at < 2 || at >= 2+n {
				gives(t, "a bad block outside", c, b.found(2), b)
				continue
			}
			keeps(t, fmt.Sprint("a bad block at ", at), c, b.found(2), api.ErrMedia)
			beyond := b.found(2)
			beyond.Count = 99999
			keeps(t, "a bad block and a span beyond the end of data", c, beyond, api.ErrMedia)
			header := container.HeaderBlocks(b.h)
			if at >= 2+header {
				owes(t, fmt.Sprint("a bad block at ", at), c, 2, api.ErrMedia)
			} else {
				owes(t, fmt.Sprint("a bad header block at ", at), c, 2, api.ErrTruncated)
			}
		}
	}
}

// P18.5: Payload at each block of volumes, and outside of them
func TestPayloadAtEachBlock(t *testing.T) {
	a, b := sample(), commit(6, 1, 70)
	for _, c := range []api.Cartridge{holding(a.marked(), b.marked()), holding(a.marked(), b.l), holding(a.marked(), b.marked(), one(data("x")))} {
		end := len(c.Blocks)
		for first := -2; first <= end+2; first++ {
			switch {
			case first < 0 || first > end:
				owes(t, "outside", c, first, api.ErrRange)
			case first == 0: // The body of a label is no header.
				owes(t, "the label", c, first, api.ErrCorrupt)
			case first == 2:
				gives(t, "the first container", c, a.found(2), a)
			case first == 2+len(a.l)+1:
				gives(t, "the second container", c, b.found(first), b)
			case first == end || c.Blocks[first].Mark || len(c.Blocks[first].Data) < 10:
				owes(t, "no bytes", c, first, api.ErrTruncated)
			default:
				owes(t, "another block", c, first, api.ErrSyntax)
			}
		}
	}
	for _, c := range []api.Cartridge{blank(9), holding(), holding(a.marked())} {
		for _, first := range []int{math.MinInt, -4096, -1, len(c.Blocks) + 1, 4096, math.MaxInt} {
			owes(t, "outside", c, first, api.ErrRange)
		}
		owes(t, "the end of data", c, len(c.Blocks), api.ErrTruncated)
	}
}

// P18.5: Payload returns each error of container.Payload, with and without a label.
func TestErrorsOfPayload(t *testing.T) {
	a, b := sample(), commit(6, 1, 70)
	last := len(a.l) - 1
	other := func(at int) func(b api.Block) api.Block {
		return func(x api.Block) api.Block { x.Data[at]++; return x }
	}
	for _, x := range []struct {
		name string
		l    []api.Block
		e    api.Errno
	}{
		{"no blocks", nil, api.ErrTruncated},
		{"no header", a.l[1:], api.ErrSyntax},
		{"other magic bytes", changed(a.l, 0, other(0)), api.ErrSyntax},
		{"a byte behind the frame", changed(b.l, 0, other(63)), api.ErrSyntax},
		{"too great a length", changed(a.l, 0, other(2)), api.ErrTooLong},
		{"another checksum", changed(a.l, 0, other(6)), api.ErrChecksum},
		{"another body", divided(frameOf([]byte("abc"))), api.ErrCorrupt},
		{"a part of the payload", a.l[:last], api.ErrTruncated},
		{"a bad block", changed(a.l, last, bad), api.ErrMedia},
		{"a mark", with(a.l, last, mark()), api.ErrSyntax},
		{"a short block", with(a.l, last, data("x")), api.ErrSyntax},
		{"another byte", changed(a.l, last, other(0)), api.ErrChecksum},
		{"another byte of version 1", changed(b.l, 1, other(0)), api.ErrChecksum},
	} {
		c := blank(20)
		c.Blocks = x.l
		owes(t, x.name, c, 0, x.e)
		c = holding(x.l)
		owes(t, x.name+" behind the label", c, 2, x.e)
		c = holding(sample().marked(), x.l)
		owes(t, x.name+" behind a container", c, 2+len(sample().l)+1, x.e)
	}
}

// P18.5: a container without a mark, and whatever follows behind it
func TestPayloadWithoutMark(t *testing.T) {
	for _, b := range containers() {
		for _, x := range append(pieces(), piece{}) {
			gives(t, "a container before "+x.name, holding(b.l, x.l), b.found(2), b)
		}
	}
}
