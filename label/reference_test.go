package label_test

import (
	"bytes"
	"encoding/binary"
	"fmt"
	"hash/crc32"
	"slices"
	"strings"
	"testing"

	"tapearchive/api"
	"tapearchive/label"
)

// What the functions must return, computed sentence by sentence from the chapters 2, 3 and 14, without the layers 2 and 3, and the labels that the tests try.

const (
	capitals = "ABCDEFGHIJKLMNOPQRSTUVWXYZ"
	letters  = "abcdefghijklmnopqrstuvwxyz"
	digits   = "0123456789"
)

// random is a sequence of numbers that is the same in each run.
type random uint64

// below returns the next number, from 0 to n - 1.
func (r *random) below(n int) int {
	*r = *r*6364136223846793005 + 1442695040888963407
	x := uint64(*r)
	return int((x ^ x>>33) * 0xFF51AFD7ED558CCD >> 1 % uint64(n))
}

// consists reports whether each byte of a string is one of these.
func consists(s, permitted string) bool {
	for i := range len(s) {
		if strings.IndexByte(permitted, s[i]) < 0 {
			return false
		}
	}
	return true
}

// barcodeOf and nameOf follow the definitions of a barcode and a name literally, and validOf that of a valid label.
func barcodeOf(s string) bool {
	return len(s) >= 1 && len(s) <= 24 && consists(s, capitals+digits)
}

func nameOf(s string) bool {
	return len(s) >= 1 && len(s) <= 24 && consists(s, letters+digits+"-") && consists(s[:1], letters)
}

func validOf(l api.Label) bool {
	return barcodeOf(l.Barcode) && nameOf(l.Pool) && l.Epoch >= 0 && l.Epoch <= 1<<50 && l.Created >= 0 && l.Created < 1<<40
}

// numberOf returns the bytes of a number.
func numberOf(n uint64) []byte {
	if n < 128 {
		return []byte{byte(n)}
	}
	return append([]byte{byte(n%128) + 128}, numberOf(n/128)...)
}

// intOf returns the bytes of the code of an int.
func intOf(n int) []byte {
	if n < 0 {
		return numberOf(uint64(-(n+1))*2 + 1)
	}
	return numberOf(uint64(n) * 2)
}

// textOf returns the bytes of a text.
func textOf(s string) []byte { return append(numberOf(uint64(len(s))), s...) }

// fieldsOf returns the parts of the body of a label.
func fieldsOf(l api.Label) [][]byte {
	return [][]byte{textOf("volume"), textOf(l.Barcode), textOf(l.Pool), intOf(l.Epoch), intOf(l.Created)}
}

// bodyOf returns the body of a label.
func bodyOf(l api.Label) []byte { return slices.Concat(fieldsOf(l)...) }

// sumOf returns the checksum of a frame, from the bytes of its length on.
func sumOf(length, body []byte) []byte {
	sum := crc32.Checksum(slices.Concat(length, body), crc32.MakeTable(crc32.Castagnoli))
	return binary.BigEndian.AppendUint32(nil, sum)
}

// frameOf returns the frame with a body.
func frameOf(body []byte) []byte {
	length := binary.BigEndian.AppendUint32(nil, uint32(len(body)))
	return slices.Concat([]byte{0xA7, 0x3C}, length, sumOf(length, body), body)
}

// divided returns bytes in data blocks, one byte after the other.
func divided(b []byte) []api.Block {
	var l []api.Block
	for i, x := range b {
		if i%64 == 0 {
			l = append(l, api.Block{Data: make([]byte, 64)})
		}
		l[i/64].Data[i%64] = x
	}
	return l
}

// mark returns a mark.
func mark() api.Block { return api.Block{Mark: true} }

// framed returns the blocks of the frame with a body, and a mark.
func framed(body []byte) []api.Block { return append(divided(frameOf(body)), mark()) }

// blocksOf returns the blocks of a label.
func blocksOf(l api.Label) []api.Block { return framed(bodyOf(l)) }

// bytesOf follows P14.2 literally.
func bytesOf(l []api.Block) []byte {
	var b []byte
	for _, x := range l {
		if x.Mark || x.Bad {
			break
		}
		b = slices.Concat(b, x.Data)
	}
	return b
}

// readFrame follows P3.3 at the offset 0 literally.
func readFrame(b []byte) ([]byte, api.Errno) {
	if len(b) < 10 {
		return nil, api.ErrTruncated
	}
	if b[0] != 0xA7 || b[1] != 0x3C {
		return nil, api.ErrSyntax
	}
	n := int(binary.BigEndian.Uint32(b[2:]))
	if n > 65536 {
		return nil, api.ErrTooLong
	}
	if len(b) < n+10 {
		return nil, api.ErrTruncated
	}
	if !bytes.Equal(b[6:10], sumOf(b[2:6], b[10:n+10])) {
		return nil, api.ErrChecksum
	}
	return b[10 : n+10], api.OK
}

// readNumber follows P2.2 literally, and returns what follows the number.
func readNumber(b []byte) (uint64, []byte, api.Errno) {
	given := b[:min(len(b), 10)]
	last := slices.IndexFunc(given, func(x byte) bool { return x < 128 })
	switch {
	case last < 0 && len(given) == 10:
		return 0, nil, api.ErrTooLong
	case last < 0:
		return 0, nil, api.ErrTruncated
	case last == 9 && given[last] > 1:
		return 0, nil, api.ErrTooLong
	case last > 0 && given[last] == 0:
		return 0, nil, api.ErrSyntax
	}
	n := uint64(0)
	for i := last; i >= 0; i-- {
		n = n*128 + uint64(given[i]%128)
	}
	return n, b[last+1:], api.OK
}

// readInt follows P2.3 literally, and returns what follows the int.
func readInt(b []byte) (int, []byte, api.Errno) {
	c, rest, e := readNumber(b)
	if c%2 == 1 {
		return -int(c/2) - 1, rest, e
	}
	return int(c / 2), rest, e
}

// readText follows P2.4 literally with most MaxName, and returns what follows the text.
func readText(b []byte) (string, []byte, api.Errno) {
	length, rest, e := readNumber(b)
	switch {
	case e != api.OK:
		return "", nil, e
	case length > 24:
		return "", nil, api.ErrTooLong
	case length > uint64(len(rest)):
		return "", nil, api.ErrTruncated
	}
	return string(rest[:length]), rest[length:], api.OK
}

// readBody goes through a body as P14.4 says.
func readBody(b []byte) (api.Label, api.Errno) {
	var l api.Label
	first, b, e := readText(b)
	if e != api.OK {
		return l, e
	}
	if first != "volume" {
		return l, api.ErrSyntax
	}
	if l.Barcode, b, e = readText(b); e != api.OK {
		return l, e
	}
	if l.Pool, b, e = readText(b); e != api.OK {
		return l, e
	}
	if l.Epoch, b, e = readInt(b); e != api.OK {
		return l, e
	}
	if l.Created, b, e = readInt(b); e != api.OK {
		return l, e
	}
	if len(b) > 0 {
		return l, api.ErrTrailing
	}
	return l, api.OK
}

// result is what Parse returns.
type result struct {
	l api.Label
	n int
	e api.Errno
}

// failed returns a result that is an error.
func failed(e api.Errno) result { return result{e: e} }

// parseOf follows P14.4 literally.
func parseOf(blocks []api.Block) result {
	first := slices.IndexFunc(blocks, func(b api.Block) bool { return b.Mark || b.Bad })
	if first >= 0 && blocks[first].Bad {
		return failed(api.ErrMedia)
	}
	body, e := readFrame(bytesOf(blocks))
	if e != api.OK {
		return failed(e)
	}
	l, e := readBody(body)
	if e != api.OK {
		return failed(e)
	}
	if !validOf(l) {
		return failed(api.ErrInvalid)
	}
	if !beginsWith(blocks, blocksOf(l)) {
		return failed(api.ErrCorrupt)
	}
	return result{l, len(blocksOf(l)), api.OK}
}

// equal reports whether two lists of blocks are equal; nil and empty ones are.
func equal(a, b []api.Block) bool {
	return len(a) == len(b) && beginsWith(a, b)
}

// beginsWith reports whether a list of blocks begins with another one.
func beginsWith(l, front []api.Block) bool {
	if len(l) < len(front) {
		return false
	}
	for i, x := range front {
		if l[i].Mark != x.Mark || l[i].Bad != x.Bad || string(l[i].Data) != string(x.Data) {
			return false
		}
	}
	return true
}

// cloned returns the same blocks in memory of their own.
func cloned(l []api.Block) []api.Block {
	l = slices.Clone(l)
	for i := range l {
		l[i].Data = slices.Clone(l[i].Data)
	}
	return l
}

// name describes blocks in a message.
func name(l []api.Block) string {
	var b strings.Builder
	for _, x := range l {
		fmt.Fprintf(&b, "[%x", x.Data)
		if x.Mark {
			b.WriteString(" mark")
		}
		if x.Bad {
			b.WriteString(" bad")
		}
		b.WriteString("]")
	}
	return b.String()
}

// parse calls Parse and checks that it returns what it must, and does not change the blocks.
func parse(t *testing.T, blocks []api.Block) result {
	t.Helper()
	before := cloned(blocks)
	l, n, e := label.Parse(blocks)
	got := result{l, n, e}
	if want := parseOf(before); got != want {
		t.Errorf("Parse of %s: %+v, want %+v", name(before), got, want)
	}
	if !equal(blocks, before) {
		t.Errorf("Parse has changed %s to %s", name(before), name(blocks))
	}
	return got
}

// expect checks that Parse returns an error.
func expect(t *testing.T, what string, blocks []api.Block, want api.Errno) {
	t.Helper()
	if got := parse(t, blocks); got != failed(want) {
		t.Errorf("%s: Parse of %s: %+v, want the error %d", what, name(blocks), got, want)
	}
}

// accept checks that Parse returns this label and the number of its blocks.
func accept(t *testing.T, what string, blocks []api.Block, want api.Label) {
	t.Helper()
	if got := parse(t, blocks); got != (result{want, len(blocksOf(want)), api.OK}) {
		t.Errorf("%s: Parse of %s: %+v, want %+v", what, name(blocks), got, want)
	}
}

// chapter is the label of the chapter's example 3.
func chapter() api.Label { return api.Label{Barcode: "A1", Pool: "p", Epoch: 1, Created: 0} }

// labels are valid labels, also with frames of 63, 64 and 65 bytes, and with the shortest and the longest one.
func labels() []api.Label {
	list := []api.Label{chapter(), {Barcode: "A", Pool: "a"}}
	for _, barcode := range []string{"0", "Z9", capitals[:23], (capitals + digits)[12:36]} {
		for _, pool := range []string{"z", "p-1", "a-", letters[:18], letters[:19], letters[:17] + "-123", letters[:23], letters[2:], "a-----------------------"} {
			for _, epoch := range []int{0, 63, 64, 8191, 8192, 1<<50 - 1, 1 << 50} {
				for _, created := range []int{0, 1, 70, 1<<20 - 1, 1<<40 - 1} {
					list = append(list, api.Label{Barcode: barcode, Pool: pool, Epoch: epoch, Created: created})
				}
			}
		}
	}
	return list
}

// invalid are labels that are not valid by one condition alone.
func invalid() []api.Label {
	var list []api.Label
	for _, barcode := range []string{"", "a1", "A-", "A ", "A1\x00", "\xc3\x84", "AÄ", capitals[:24] + "1"} {
		list = append(list, api.Label{Barcode: barcode, Pool: "p", Epoch: 1})
	}
	for _, pool := range []string{"", "P", "1p", "-p", "p_", "p ", "p\x00", "\xc3\xa4", "pä", letters[:24] + "1"} {
		list = append(list, api.Label{Barcode: "A1", Pool: pool, Epoch: 1})
	}
	for _, epoch := range []int{-1 << 63, -1, 1<<50 + 1, 1<<63 - 1} {
		list = append(list, api.Label{Barcode: "A1", Pool: "p", Epoch: epoch})
	}
	for _, created := range []int{-1 << 63, -1, 1 << 40, 1<<63 - 1} {
		list = append(list, api.Label{Barcode: "A1", Pool: "p", Epoch: 1, Created: created})
	}
	return list
}
