package container_test

import (
	"bytes"
	"encoding/binary"
	"math"
	"slices"
	"testing"

	"tapearchive/api"
)

// put returns a copy of b that has the bytes given at at.
func put(b []byte, at int, given ...byte) []byte {
	b = slices.Clone(b)
	copy(b[at:], given)
	return b
}

// inserted returns a copy of blocks with one more at a place.
func inserted(l []api.Block, at int, b api.Block) []api.Block {
	return slices.Insert(cloned(l), at, b)
}

// replaced returns a copy of blocks with another one at a place.
func replaced(l []api.Block, at int, b api.Block) []api.Block {
	l = cloned(l)
	l[at] = b
	return l
}

// expect checks that Parse, and with it Payload, returns an error.
func expect(t *testing.T, what string, l []api.Block, want api.Errno) {
	t.Helper()
	if got := parse(t, l); got.e != want {
		t.Errorf("%s: Parse of %s: %+v, want the error %d", what, name(l), got, want)
	}
	if got := pay(t, l); got.e != want {
		t.Errorf("%s: Payload of %s: %+v, want the error %d", what, name(l), got, want)
	}
}

// accept checks that Parse returns this header and the number of its blocks.
func accept(t *testing.T, what string, l []api.Block, want api.Header) {
	t.Helper()
	if got := parse(t, l); got.e != api.OK || !same(got.h, want) || got.n != len(headerOf(want)) {
		t.Errorf("%s: Parse of %s: %+v, want %+v", what, name(l), got, want)
	}
}

// P15.3: headers of all kinds, whatever follows them
func TestParse(t *testing.T) {
	for _, h := range bases() {
		for _, rest := range behind() {
			accept(t, "a base", slices.Concat(headerOf(h), rest), h)
		}
	}
	for _, c := range small() {
		accept(t, "a container", buildOf(c.h, c.payload).l, c.h)
	}
	for _, h := range framed(t, 64) {
		accept(t, "a frame of many sizes", headerOf(h), h)
		accept(t, "a frame of many sizes, and a block", append(headerOf(h), data("x")), h)
	}
	var r random
	for range 3000 {
		h := randomHeader(&r, 1<<40)
		accept(t, "a random header", headerOf(h), h)
	}
}

// P15.3: the greatest values of the numbers, and all sums
func TestParseSums(t *testing.T) {
	h, _ := parts(2, 1, 2)
	for _, sum := range []uint32{0, 1, 127, 128, 1<<31 - 1, 1 << 31, math.MaxUint32} {
		for _, other := range []uint32{0, math.MaxUint32} {
			h.Sum, h.Entries[0].Sum, h.Entries[1].Sum = sum, other, sum
			accept(t, "sums", headerOf(h), h)
		}
	}
	for _, n := range []uint64{0, 1, 1<<32 - 1, 1 << 33, 1<<33 + 1, 1<<63 + 1<<32, math.MaxUint64, 1<<64 - 1<<32} {
		for _, at := range []int{13, 18, 20} {
			numbers := numbersOf(h)
			numbers[at] = n
			expect(t, "a sum that is not from 2^32 to 2^33 - 1", divided(frameOf(bodyOf(numbers))), api.ErrCorrupt)
		}
	}
}

// P15.3: every error of frame.Next
func TestParseFrames(t *testing.T) {
	h, _ := parts(1, 9, 8, 7)
	f := frameOf(bodyOf(numbersOf(h)))
	if len(f) < 50 || len(f) > 62 {
		t.Fatalf("the frame has %d bytes", len(f))
	}
	length := func(n int) []byte { return put(f, 2, binary.BigEndian.AppendUint32(nil, uint32(n))...) }
	for _, c := range []struct {
		name string
		l    []api.Block
		want api.Errno
	}{
		{"nil", nil, api.ErrTruncated},
		{"no blocks", []api.Block{}, api.ErrTruncated},
		{"a mark", []api.Block{mark()}, api.ErrTruncated},
		{"a bad block", []api.Block{{Bad: true}}, api.ErrTruncated},
		{"a block without data", []api.Block{{}}, api.ErrTruncated},
		{"a mark with the frame", []api.Block{{Mark: true, Data: divided(f)[0].Data}}, api.ErrTruncated},
		{"a bad block with the frame", []api.Block{{Bad: true, Data: divided(f)[0].Data}}, api.ErrTruncated},
		{"behind a mark", append([]api.Block{mark()}, divided(f)...), api.ErrTruncated},
		{"behind a bad block", append([]api.Block{{Bad: true}}, divided(f)...), api.ErrTruncated},
		{"one byte", []api.Block{{Data: f[:1]}}, api.ErrTruncated},
		{"9 bytes", []api.Block{{Data: f[:9]}}, api.ErrTruncated},
		{"9 bytes, and a mark with the others", []api.Block{{Data: f[:9]}, {Mark: true, Data: f[9:]}}, api.ErrTruncated},
		{"9 zero bytes", []api.Block{{Data: make([]byte, 9)}}, api.ErrTruncated},
		{"10 zero bytes", []api.Block{{Data: make([]byte, 10)}}, api.ErrSyntax},
		{"the first magic byte", divided(put(f, 0, 0xA6)), api.ErrSyntax},
		{"the second magic byte", divided(put(f, 1, 0x3D)), api.ErrSyntax},
		{"exchanged magic bytes", divided(put(f, 0, 0x3C, 0xA7)), api.ErrSyntax},
		{"a length of 65537", divided(length(65537)), api.ErrTooLong},
		{"the greatest length", divided(length(1<<32 - 1)), api.ErrTooLong},
		{"a length of 65536", divided(length(65536)), api.ErrTruncated},
		{"a length of one byte too many", divided(length(64 - 10 + 1)), api.ErrTruncated},
		{"a length of all bytes", divided(length(64 - 10)), api.ErrChecksum},
		{"a length of one byte more", divided(length(len(f) - 10 + 1)), api.ErrChecksum},
		{"a length of one byte less", divided(length(len(f) - 10 - 1)), api.ErrChecksum},
		{"the length 0", divided(length(0)), api.ErrChecksum},
		{"the first byte of the checksum", divided(put(f, 6, f[6]+1)), api.ErrChecksum},
		{"the last byte of the checksum", divided(put(f, 9, f[9]+1)), api.ErrChecksum},
		{"the first byte of the body", divided(put(f, 10, f[10]+1)), api.ErrChecksum},
		{"the last byte of the body", divided(put(f, len(f)-1, f[len(f)-1]+1)), api.ErrChecksum},
		{"without its last byte", []api.Block{{Data: f[:len(f)-1]}}, api.ErrTruncated},
	} {
		expect(t, c.name, c.l, c.want)
	}
}

// P15.3: a header of many blocks, of which one is bad, a mark, missing, or of another length
func TestParseBlocks(t *testing.T) {
	for _, h := range []api.Header{bases()[0], bases()[1], bases()[2], framed(t, 260)[128], framed(t, 260)[129], framed(t, 260)[192]} {
		l := headerOf(h)
		for i, x := range l {
			last := i == len(l)-1
			expect(t, "cut blocks", l[:i], api.ErrTruncated)
			expect(t, "a bad block", replaced(l, i, api.Block{Bad: true, Data: x.Data}), api.ErrTruncated)
			expect(t, "a mark", replaced(l, i, mark()), api.ErrTruncated)
			expect(t, "a mark with data", replaced(l, i, api.Block{Mark: true, Data: x.Data}), api.ErrTruncated)
			expect(t, "a mark in front", inserted(l, i, mark()), api.ErrTruncated)
			expect(t, "a bad block in front", inserted(l, i, api.Block{Bad: true, Data: []byte("x")}), api.ErrTruncated)
			expect(t, "a block without data in front", inserted(l, i, api.Block{}), api.ErrSyntax)
			expect(t, "a block without data in front, and room behind", append(inserted(l, i, api.Block{}), data(string(make([]byte, 64)))), api.ErrSyntax)
			for n := 1; n < 64; n += 9 {
				parse(t, replaced(l, i, api.Block{Data: x.Data[:n]}))
				expect(t, "a divided block", slices.Insert(replaced(l, i, api.Block{Data: x.Data[:n]}), i+1, api.Block{Data: x.Data[n:]}), api.ErrSyntax)
			}
			if longer := append(slices.Clone(x.Data), 0); last {
				expect(t, "a last block that is too long", replaced(l, i, api.Block{Data: longer}), api.ErrSyntax)
				expect(t, "a last block that is much too long", replaced(l, i, api.Block{Data: slices.Concat(x.Data, x.Data)}), api.ErrSyntax)
			}
			joined := []api.Block{{Data: bytesOf(l[:i+1])}}
			if i > 0 {
				expect(t, "joined blocks", append(joined, l[i+1:]...), api.ErrSyntax)
				expect(t, "joined blocks, and others behind them", slices.Concat(joined, l[i+1:], l), api.ErrSyntax)
			}
		}
	}
}

// P15.3: a last block that ends with the frame, or with some of the bytes behind it
func TestParseShortLastBlock(t *testing.T) {
	for n, h := range framed(t, 260) {
		f := frameOf(bodyOf(numbersOf(h)))
		l := divided(f)
		for room := range len(l)*64 - n {
			last := l[len(l)-1].Data[:64-(len(l)*64-n)+room]
			short := replaced(l, len(l)-1, api.Block{Data: last})
			if len(last) < 64 {
				expect(t, "a last block that is too short", short, api.ErrSyntax)
				expect(t, "a last block that is too short, and more", append(short, data(string(make([]byte, 64)))), api.ErrSyntax)
			}
		}
	}
}

// P15.3: bytes behind the frame that are not 0, at each place
func TestParseBytesBehindTheFrame(t *testing.T) {
	list := framed(t, 260)
	for _, n := range []int{41, 62, 63, 64, 65, 100, 127, 128, 129, 191, 192, 193} {
		l := headerOf(list[n])
		for at := n; at < len(l)*64; at++ {
			for _, x := range []byte{1, 128, 255} {
				bad := cloned(l)
				bad[at/64].Data[at%64] = x
				expect(t, "a byte behind the frame", bad, api.ErrSyntax)
				expect(t, "a byte behind the frame, and blocks", append(bad, data("x"), mark()), api.ErrSyntax)
			}
		}
		accept(t, "bytes behind the blocks", append(l, api.Block{Data: bytes.Repeat([]byte{255}, 64)}), list[n])
	}
}

// corrupt checks that Parse of the blocks of a frame with this body returns ErrCorrupt.
func corrupt(t *testing.T, what string, body []byte) {
	t.Helper()
	expect(t, what, divided(frameOf(body)), api.ErrCorrupt)
}

// P15.3: bodies that are cut, longer than the encoding, or another form of the same numbers
func TestParseBodies(t *testing.T) {
	corrupt(t, "no body", nil)
	for _, h := range bases() {
		if len(h.Entries) == 64 {
			h, _ = parts(1, slices.Repeat([]int{1}, 64)...)
		}
		numbers := numbersOf(h)
		body := bodyOf(numbers)
		for n := range body {
			corrupt(t, "a body that is cut", body[:n])
		}
		for n := range numbers {
			corrupt(t, "numbers that are cut", bodyOf(numbers[:n]))
			corrupt(t, "a number that is missing", bodyOf(slices.Delete(slices.Clone(numbers), n, n+1)))
			corrupt(t, "a number that ends by a zero group", slices.Concat(bodyOf(numbers[:n]), longer(numbers[n]), bodyOf(numbers[n+1:])))
			corrupt(t, "a number that is too long", slices.Concat(bodyOf(numbers[:n]), bytes.Repeat([]byte{255}, 10), bodyOf(numbers[n+1:])))
			corrupt(t, "a number that does not end", slices.Concat(bodyOf(numbers[:n]), []byte{200}))
			for _, x := range []uint64{1 << 63, math.MaxUint64, numbers[n] + 1<<63} {
				other := slices.Clone(numbers)
				other[n] = x
				corrupt(t, "a number that exceeds the range of int", bodyOf(other))
			}
		}
		for _, more := range [][]byte{{0}, {1}, {128}, {255}, {0, 0, 0}, body} {
			corrupt(t, "a body that continues", slices.Concat(body, more))
		}
		corrupt(t, "bytes in front of the body", slices.Concat([]byte{0}, body))
	}
}

// longer returns a form of a number that ends by a zero group.
func longer(n uint64) []byte {
	b := numberOf(n)
	b[len(b)-1] += 128
	return append(b, 0)
}

// P15.3: numbers of entries that are not those of the entries that follow
func TestParseNumbersOfEntries(t *testing.T) {
	for _, entries := range []int{0, 1, 2, 5, 63, 64, 65, 66} {
		for _, length := range []int{0, 1} {
			h, _ := parts(1, slices.Repeat([]int{length}, entries)...)
			numbers := numbersOf(h)
			for _, n := range []uint64{0, 1, 2, 3, 5, 62, 63, 64, 65, 66, 128, 1 << 31, 1 << 32, 1<<63 - 1, 1 << 63, 1<<64 - 1, 1<<64 - 64} {
				numbers[8] = n
				if l := divided(frameOf(bodyOf(numbers))); n == uint64(entries) && entries <= 64 {
					accept(t, "this number of entries", l, h)
				} else {
					expect(t, "another number of entries", l, api.ErrCorrupt)
				}
			}
		}
	}
	// A body of MaxRecord bytes, all of whose numbers are 1
	corrupt(t, "the longest body", bytes.Repeat([]byte{1}, 65536))
	corrupt(t, "the longest body of zero bytes", make([]byte, 65536))
	corrupt(t, "the longest body of long numbers", bytes.Repeat([]byte{255}, 65536))
}

// P15.3: encodings of headers that are not valid by each condition alone, and of those with each value in each field
func TestParseInvalidHeaders(t *testing.T) {
	for _, c := range invalid() {
		corrupt(t, c.name, bodyOf(numbersOf(c.h)))
	}
	for _, h := range bases() {
		if len(h.Entries) == 64 {
			continue
		}
		for _, f := range fieldsOf(h) {
			for _, n := range ints() {
				other := with(h, f, n)
				if l := headerOf(other); validOf(other) {
					accept(t, "another number", l, other)
				} else {
					expect(t, "another number", l, api.ErrCorrupt)
				}
			}
		}
	}
}

// P15.3: random headers, most of them not valid, and changed blocks of them
func TestParseRandomHeaders(t *testing.T) {
	var r random
	counts := map[api.Errno]int{}
	for range 3000 {
		l := headerOf(randomHeader(&r, 25))
		counts[parse(t, l).e]++
		counts[parse(t, randomBlocks(&r, l)).e]++
	}
	for _, e := range []api.Errno{api.OK, api.ErrTruncated, api.ErrSyntax, api.ErrChecksum, api.ErrCorrupt} {
		if counts[e] < 50 {
			t.Errorf("the numbers of errors are %v", counts)
		}
	}
}

// randomBlocks returns blocks after some changes.
func randomBlocks(r *random, l []api.Block) []api.Block {
	l = cloned(l)
	for range r.below(4) {
		at := r.below(len(l) + 1)
		if at == len(l) {
			l = append(l, behind()[r.below(len(behind()))]...)
			continue
		}
		switch b := &l[at]; r.below(9) {
		case 0:
			b.Mark = true
		case 1:
			b.Bad = true
		case 2:
			b.Data = append(b.Data, byte(r.below(2)))
		case 3:
			b.Data = b.Data[:r.below(len(b.Data)+1)]
		case 4:
			l = inserted(l, at, api.Block{})
		case 5:
			l = l[:at]
		default:
			if len(b.Data) > 0 {
				b.Data[r.below(len(b.Data))] ^= 1 << r.below(8)
			}
		}
	}
	return l
}
