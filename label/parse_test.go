package label_test

import (
	"bytes"
	"encoding/binary"
	"math"
	"slices"
	"strings"
	"testing"

	"tapearchive/api"
)

// with returns a copy of b that has the bytes given at at.
func with(b []byte, at int, given ...byte) []byte {
	b = slices.Clone(b)
	copy(b[at:], given)
	return b
}

// behind returns what may follow the blocks of a label.
func behind() [][]api.Block {
	return [][]api.Block{
		nil, {{}}, {mark()}, {data("x")}, {{Bad: true}}, {{Mark: true, Bad: true}}, {{Mark: true, Data: []byte("x")}}, {{Bad: true, Data: []byte("x")}},
		{data(string(make([]byte, 64)))}, {data(strings.Repeat("y", 65)), mark(), {Bad: true}},
		blocksOf(chapter()), slices.Repeat([]api.Block{data("z")}, 100),
	}
}

// P14.4: Parse of no blocks, of marks and of bad blocks
func TestParseWithoutLabel(t *testing.T) {
	expect(t, "nil", nil, api.ErrTruncated)
	expect(t, "no blocks", []api.Block{}, api.ErrTruncated)
	expect(t, "a mark alone", []api.Block{mark()}, api.ErrTruncated)
	expect(t, "a mark with a frame in it", []api.Block{{Mark: true, Data: frameOf(bodyOf(chapter()))}}, api.ErrTruncated)
	expect(t, "a block without data", []api.Block{{}}, api.ErrTruncated)
	expect(t, "a bad block alone", []api.Block{{Bad: true}}, api.ErrMedia)
	expect(t, "a bad mark alone", []api.Block{{Mark: true, Bad: true}}, api.ErrMedia)
	expect(t, "a bad block with a frame in it", []api.Block{{Bad: true, Data: frameOf(bodyOf(chapter()))}, mark()}, api.ErrMedia)
	for _, l := range []api.Label{chapter(), labels()[len(labels())-1]} {
		blocks := blocksOf(l)
		expect(t, "behind a mark", append([]api.Block{mark()}, blocks...), api.ErrTruncated)
		expect(t, "behind a bad block", append([]api.Block{{Bad: true}}, blocks...), api.ErrMedia)
		expect(t, "behind a bad mark", append([]api.Block{{Mark: true, Bad: true}}, blocks...), api.ErrMedia)
	}
}

// P14.4: each block of a label is bad, and bad blocks in front of, between and behind its blocks
func TestParseBadBlocks(t *testing.T) {
	for _, l := range labels() {
		blocks := blocksOf(l)
		for i := range len(blocks) {
			bad := cloned(blocks)
			bad[i].Bad = true
			expect(t, "a bad block of the label", bad, api.ErrMedia)
			bad = inserted(blocks, i, api.Block{Bad: true, Data: []byte("x")})
			expect(t, "a bad block before the mark", bad, api.ErrMedia)
			bad[i].Mark, bad[i].Data = true, nil
			expect(t, "a bad mark before the mark", bad, api.ErrMedia)
		}
		accept(t, "a bad block behind the mark", append(blocks, api.Block{Bad: true}), l)
		accept(t, "a bad mark behind the mark", append(blocks, api.Block{Mark: true, Bad: true}), l)
		expect(t, "a bad block instead of the mark", append(blocks[:len(blocks)-1:len(blocks)-1], api.Block{Bad: true}), api.ErrMedia)
	}
	expect(t, "a bad block behind a mark", []api.Block{mark(), {Bad: true}}, api.ErrTruncated)
	expect(t, "a bad block behind what is no frame", []api.Block{data(strings.Repeat("x", 64)), mark(), {Bad: true}}, api.ErrSyntax)
	expect(t, "a bad mark behind what is no frame", []api.Block{data(strings.Repeat("x", 64)), {Mark: true, Bad: true}}, api.ErrMedia)
}

// P14.4: every error of frame.Next
func TestParseFrames(t *testing.T) {
	frame := frameOf(bodyOf(chapter()))
	length := func(n int) []byte { return with(frame, 2, binary.BigEndian.AppendUint32(nil, uint32(n))...) }
	for _, c := range []struct {
		name string
		b    []byte
		want api.Errno
	}{
		{"one byte", frame[:1], api.ErrTruncated},
		{"9 bytes", frame[:9], api.ErrTruncated},
		{"9 bytes that begin no frame", with(frame[:9], 0, 0), api.ErrTruncated},
		{"10 bytes", frame[:10], api.ErrTruncated},
		{"10 bytes that begin no frame", with(frame[:10], 0, 0), api.ErrSyntax},
		{"23 bytes", frame[:23], api.ErrTruncated},
		{"another first byte", with(frame, 0, 0xA6), api.ErrSyntax},
		{"another second byte", with(frame, 1, 0x3D), api.ErrSyntax},
		{"no first byte", frame[1:], api.ErrSyntax},
		{"zeros", make([]byte, 64), api.ErrSyntax},
		{"a length that is too great", length(65537), api.ErrTooLong},
		{"the greatest length", length(math.MaxUint32), api.ErrTooLong},
		{"the greatest length that is permitted", length(65536), api.ErrTruncated},
		{"a length of one more", length(15), api.ErrTruncated},
		{"a length of one more, and another byte", append(length(15), 0), api.ErrChecksum},
		{"a length of one less", length(13), api.ErrChecksum},
		{"the length 0", length(0), api.ErrChecksum},
		{"another checksum", with(frame, 6, frame[6]^1), api.ErrChecksum},
		{"another last byte of the checksum", with(frame, 9, frame[9]^128), api.ErrChecksum},
		{"another byte of the body", with(frame, 10, 7), api.ErrChecksum},
		{"another last byte of the body", with(frame, 23, 2), api.ErrChecksum},
		{"an empty body", frameOf(nil), api.ErrTruncated},
		{"the longest body", frameOf(make([]byte, 65536)), api.ErrSyntax},
	} {
		// Neither the blocks nor the mark play a part.
		expect(t, c.name, []api.Block{{Data: c.b}}, c.want)
		expect(t, c.name, []api.Block{{Data: c.b}, mark()}, c.want)
		expect(t, c.name, []api.Block{{Data: c.b[:1]}, {Data: c.b[1:]}, mark(), data("x")}, c.want)
	}
	expect(t, "10 bytes, filled up", append(divided(frame[:10]), mark()), api.ErrChecksum)
	expect(t, "a length of one more, filled up", append(divided(length(15)), mark()), api.ErrChecksum)
	long := blocksOf(api.Label{Barcode: capitals[:24], Pool: letters[:24], Epoch: 1 << 50, Created: 1<<40 - 1})
	expect(t, "only the first block of a label", long[:1], api.ErrTruncated)
	expect(t, "only the first block, and the mark", []api.Block{long[0], mark()}, api.ErrTruncated)
	expect(t, "a mark between", []api.Block{long[0], mark(), long[1], mark()}, api.ErrTruncated)
}

// expectBody checks Parse of the blocks of the frame with a body.
func expectBody(t *testing.T, what string, body []byte, want api.Errno) {
	t.Helper()
	expect(t, what, framed(body), want)
}

// wrongNumbers are bytes of which codec.Uint and codec.Int read no number, whatever follows unless they are cut.
func wrongNumbers() map[string]struct {
	b    []byte
	cut  bool
	want api.Errno
} {
	ones := bytes.Repeat([]byte{255}, 12)
	return map[string]struct {
		b    []byte
		cut  bool
		want api.Errno
	}{
		"nothing":                 {nil, true, api.ErrTruncated},
		"a byte that is not last": {[]byte{128}, true, api.ErrTruncated},
		"nine such bytes":         {ones[:9], true, api.ErrTruncated},
		"ten such bytes":          {ones[:10], false, api.ErrTooLong},
		"twelve such bytes":       {ones, false, api.ErrTooLong},
		"a tenth byte 2":          {append(ones[:9:9], 2), false, api.ErrTooLong},
		"a tenth byte 0":          {append(ones[:9:9], 0), false, api.ErrSyntax},
		"128, 0":                  {[]byte{128, 0}, false, api.ErrSyntax},
		"130, 0":                  {[]byte{130, 0}, false, api.ErrSyntax},
	}
}

// P14.4: each error of codec.Text and codec.Int at each field of the body
func TestParseFields(t *testing.T) {
	for _, l := range []api.Label{chapter(), {Barcode: capitals[:24], Pool: letters[:24], Epoch: 1 << 50, Created: 1<<40 - 1}} {
		fields := fieldsOf(l)
		for i := range fields {
			front, rest := slices.Concat(fields[:i]...), slices.Concat(fields[i+1:]...)
			for what, c := range wrongNumbers() {
				if c.cut {
					expectBody(t, what, slices.Concat(front, c.b), c.want)
				} else {
					expectBody(t, what, slices.Concat(front, c.b, rest), c.want)
					expectBody(t, what+" at the end", slices.Concat(front, c.b), c.want)
				}
			}
			if i > 2 {
				continue
			}
			for n := range 24 {
				expectBody(t, "a text of which a byte is missing", slices.Concat(front, numberOf(uint64(n+1)), make([]byte, n)), api.ErrTruncated)
			}
			for _, n := range []uint64{25, 26, 127, 128, 1000, 65536, math.MaxInt, math.MaxInt + 1, math.MaxUint64} {
				expectBody(t, "a text that is too long", slices.Concat(front, numberOf(n), make([]byte, min(n, 100)), rest), api.ErrTooLong)
				expectBody(t, "a text that is too long, of which all is missing", slices.Concat(front, numberOf(n)), api.ErrTooLong)
			}
		}
		for n := range len(bodyOf(l)) {
			expectBody(t, "a body that is cut", bodyOf(l)[:n], api.ErrTruncated)
		}
	}
}

// P14.4: other texts than "volume"
func TestParseOtherWords(t *testing.T) {
	rest := slices.Concat(fieldsOf(chapter())[1:]...)
	for _, s := range []string{"", "v", "volum", "volumes", "Volume", "VOLUME", "volumf", "wolume", "volume ", " volume", "vo\x00ume", "volume\x00", "A1", letters[:24]} {
		expectBody(t, s, append(textOf(s), rest...), api.ErrSyntax)
		expectBody(t, s+" alone", textOf(s), api.ErrSyntax)
	}
	expectBody(t, "too long", append(textOf("volume"+letters[:19]), rest...), api.ErrTooLong)
}

// P14.4: texts of MaxName and of MaxName + 1 bytes
func TestParseLongTexts(t *testing.T) {
	for _, n := range []int{23, 24, 25, 26} {
		b, p := (capitals + digits)[:n], letters[:n]
		both := framed(slices.Concat(textOf("volume"), textOf(b), textOf(p), intOf(5), intOf(6)))
		first := framed(slices.Concat(textOf("volume"), textOf(b), textOf("p"), intOf(5), intOf(6)))
		second := framed(slices.Concat(textOf("volume"), textOf("B"), textOf(p), intOf(5), intOf(6)))
		if n > 24 {
			expect(t, "long texts", both, api.ErrTooLong)
			expect(t, "a long barcode", first, api.ErrTooLong)
			expect(t, "a long pool", second, api.ErrTooLong)
			continue
		}
		accept(t, "long texts", both, api.Label{Barcode: b, Pool: p, Epoch: 5, Created: 6})
		accept(t, "a long barcode", first, api.Label{Barcode: b, Pool: "p", Epoch: 5, Created: 6})
		accept(t, "a long pool", second, api.Label{Barcode: "B", Pool: p, Epoch: 5, Created: 6})
	}
}

// P14.4: bytes behind the last number, within the body
func TestParseTrailing(t *testing.T) {
	for _, l := range []api.Label{chapter(), labels()[100], invalid()[0], invalid()[10]} {
		for _, s := range []string{"\x00", "\x01", "\x80", "\xff", "volume", string(bodyOf(l)), strings.Repeat("\x00", 1000)} {
			expectBody(t, "a body that continues", append(bodyOf(l), s...), api.ErrTrailing)
		}
	}
	expectBody(t, "the longest body", append(bodyOf(chapter()), make([]byte, 65536-14)...), api.ErrTrailing)
}

// P14.4: labels that are not valid by one condition alone
func TestParseInvalidLabels(t *testing.T) {
	for _, l := range invalid() {
		if len(l.Barcode) > 24 || len(l.Pool) > 24 {
			expect(t, "a long text", blocksOf(l), api.ErrTooLong)
			continue
		}
		blocks := blocksOf(l)
		for _, end := range behind() {
			expect(t, "not valid", slices.Concat(blocks, end), api.ErrInvalid)
		}
		expect(t, "not valid, and without a mark", blocks[:len(blocks)-1], api.ErrInvalid)
	}
}

// P14.4: blocks of the right bytes that are not those of the label
func TestParseOtherBlocks(t *testing.T) {
	for _, l := range labels() {
		frame, blocks := frameOf(bodyOf(l)), blocksOf(l)
		last := len(blocks) - 2
		for _, end := range behind() {
			refuse := func(what string, blocks ...api.Block) {
				t.Helper()
				expect(t, what, slices.Concat(blocks, end), api.ErrCorrupt)
			}
			refuse("one block with all bytes of the frame", api.Block{Data: append(frame[:len(frame):len(frame)], make([]byte, 64)...)}, mark())
			refuse("another block in front", slices.Concat([]api.Block{{}}, blocks)...)
			refuse("another block before the mark", inserted(blocks, last+1, data(string(make([]byte, 64))))...)
			refuse("another block without data before the mark", inserted(blocks, last+1, api.Block{})...)
			refuse("data in the mark", append(blocks[:last+1:last+1], api.Block{Mark: true, Data: []byte{0}})...)
			for _, n := range []int{1, 20, 63} {
				first := blocks[0].Data
				refuse("a divided block", slices.Concat([]api.Block{{Data: first[:n]}, {Data: first[n:]}}, blocks[1:])...)
			}
			refuse("a longer last block", slices.Concat(blocks[:last], []api.Block{{Data: append(slices.Clone(blocks[last].Data), 0)}}, blocks[last+1:])...)
		}
		for n := len(frame); n < 64*(last+1); n++ {
			short := cloned(blocks)
			short[last].Data = short[last].Data[:n-64*last]
			expect(t, "a shorter last block", short, api.ErrCorrupt)
			for _, x := range []byte{1, 128, 255} {
				short = cloned(blocks)
				short[last].Data[n-64*last] = x
				expect(t, "a byte behind the frame that is not 0", short, api.ErrCorrupt)
			}
		}
		expect(t, "no mark", blocks[:last+1], api.ErrCorrupt)
		expect(t, "no mark, but a block without data", append(blocks[:last+1:last+1], api.Block{}), api.ErrCorrupt)
		expect(t, "the frame alone", []api.Block{{Data: frame}}, api.ErrCorrupt)
		expect(t, "every byte alone", append(single(frame), mark()), api.ErrCorrupt)
	}
}

// inserted returns blocks with another one among them, in new memory.
func inserted(l []api.Block, at int, b api.Block) []api.Block {
	return slices.Insert(cloned(l), at, b)
}

// single returns blocks of one byte each.
func single(b []byte) []api.Block {
	var l []api.Block
	for _, x := range b {
		l = append(l, api.Block{Data: []byte{x}})
	}
	return l
}

// P14.4: Parse accepts the blocks of each label, also with data in the mark that is empty and not nil.
func TestParseEmptyMark(t *testing.T) {
	for _, l := range labels() {
		blocks := blocksOf(l)
		accept(t, "a label", blocks, l)
		blocks[len(blocks)-1].Data = []byte{}
		accept(t, "a mark that has an empty slice", blocks, l)
	}
}
