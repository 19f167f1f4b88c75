package volume_test

import (
	"bytes"
	"encoding/binary"
	"fmt"
	"hash/crc32"
	"reflect"
	"slices"
	"strings"
	"testing"

	"tapearchive/api"
	"tapearchive/container"
	"tapearchive/label"
	"tapearchive/volume"
)

// What the functions must return, computed sentence by sentence from the chapters 9, 10, 14 and 18. Of the layers below, only label.Parse, container.Parse, container.Blocks and container.Payload are called: the chapter says by them what a label and a container are.

const (
	capitals = "ABCDEFGHIJKLMNOPQRSTUVWXYZ"
	letters  = "abcdefghijklmnopqrstuvwxyz"
	digits   = "0123456789"
)

// random is a sequence of numbers that is the same in each run.
type random uint64

// below returns the next number, from 0 to n - 1.
func (r *random) below(n int) int {
	*r = *r*6364136223846793005 + 1442695040888963407
	x := uint64(*r)
	return int((x ^ x>>33) * 0xFF51AFD7ED558CCD >> 1 % uint64(n))
}

// consists reports whether a string has 1 to 24 bytes, and each one is one of these.
func consists(s, permitted string) bool {
	for i := range len(s) {
		if strings.IndexByte(permitted, s[i]) < 0 {
			return false
		}
	}
	return len(s) >= 1 && len(s) <= 24
}

// nameOf follows the definition of a name.
func nameOf(s string) bool { return consists(s, letters+digits+"-") && consists(s[:1], letters) }

// capacityOf returns the capacity of a geometry, and whether it is valid (chapter 9).
func capacityOf(g api.Geometry) (int, bool) {
	for _, time := range []int{g.Step, g.Turn, g.Jump, g.Stream} {
		if time < 0 || time > 1000000 {
			return 0, false
		}
	}
	if g.Wraps < 1 || g.Wraps > 32 || g.Length < 1 || g.Length > 4096 || g.Wraps*g.Length > 4096 {
		return 0, false
	}
	return g.Wraps * g.Length, true
}

// validOf follows the definition of a valid cartridge (chapter 10).
func validOf(c api.Cartridge) bool {
	capacity, ok := capacityOf(c.Geometry)
	for _, n := range []int{c.Epoch, c.Loads, c.Passes} {
		ok = ok && n >= 0 && n <= 1<<50
	}
	for _, b := range c.Blocks {
		if b.Mark {
			ok = ok && len(b.Data) == 0
		} else {
			ok = ok && len(b.Data) >= 1 && len(b.Data) <= 64
		}
	}
	return ok && consists(c.Barcode, capitals+digits) && len(c.Blocks) <= capacity
}

// labelBlocks returns the blocks of a label (chapters 2, 3 and 14).
func labelBlocks(l api.Label) []api.Block {
	var body []byte
	for _, s := range []string{"volume", l.Barcode, l.Pool} {
		body = append(append(body, byte(len(s))), s...)
	}
	for _, n := range []int{l.Epoch, l.Created} {
		body = binary.AppendUvarint(body, uint64(n)*2)
	}
	return append(divided(frameOf(body)), mark())
}

// frameOf returns the frame with a body.
func frameOf(body []byte) []byte {
	length := binary.BigEndian.AppendUint32(nil, uint32(len(body)))
	sum := crc32.Checksum(slices.Concat(length, body), crc32.MakeTable(crc32.Castagnoli))
	return slices.Concat([]byte{0xA7, 0x3C}, length, binary.BigEndian.AppendUint32(nil, sum), body)
}

// divided returns bytes in blocks of 64 bytes, the last one filled with zero bytes.
func divided(b []byte) []api.Block {
	var l []api.Block
	for i, x := range b {
		if i%64 == 0 {
			l = append(l, api.Block{Data: make([]byte, 64)})
		}
		l[i/64].Data[i%64] = x
	}
	return l
}

// written is what Format and Append return; Format has no number.
type written struct {
	c     api.Cartridge
	first int
	e     api.Errno
}

// String describes a result.
func (w written) String() string {
	return fmt.Sprintf("error %d, %d, %s", w.e, w.first, name(w.c))
}

// same reports whether two results are equal.
func (w written) same(v written) bool {
	return w.e == v.e && w.first == v.first && sameCartridge(w.c, v.c)
}

// writeError returns the error of cartridge.Write of n valid blocks at the end of data of a valid cartridge.
func writeError(c api.Cartridge, n int) api.Errno {
	capacity, _ := capacityOf(c.Geometry)
	switch {
	case c.Locked:
		return api.ErrProtected
	case len(c.Blocks)+n > capacity:
		return api.ErrFull
	}
	return api.OK
}

// formatOf follows P18.1.
func formatOf(c api.Cartridge, pool string, time int) written {
	if !validOf(c) || !nameOf(pool) || time < 0 || time > 1<<40-1 {
		return written{e: api.ErrInvalid}
	}
	if len(c.Blocks) > 0 {
		if c.Locked || c.WriteOnce {
			return written{e: api.ErrProtected}
		}
		if c.Epoch == 1<<50 {
			return written{e: api.ErrRange}
		}
		c.Blocks = nil
		c.Epoch++
	}
	l := labelBlocks(api.Label{Barcode: c.Barcode, Pool: pool, Epoch: c.Epoch, Created: time})
	if e := writeError(c, len(l)); e != api.OK {
		return written{e: e}
	}
	c.Blocks = l
	return written{c: c}
}

// appendOf follows P18.2.
func appendOf(c api.Cartridge, l []api.Block) written {
	found := labelOf(c)
	if found.e != api.OK {
		return written{e: found.e}
	}
	if !c.Blocks[len(c.Blocks)-1].Mark {
		return written{e: api.ErrState}
	}
	if h, _, e := container.Payload(l); e != api.OK || container.Blocks(h) != len(l) {
		return written{e: api.ErrInvalid}
	}
	if e := writeError(c, len(l)+1); e != api.OK {
		return written{e: e}
	}
	first := len(c.Blocks)
	c.Blocks = slices.Concat(cloned(c.Blocks), cloned(l), []api.Block{mark()})
	return written{c, first, api.OK}
}

// labeled is what Label returns, and the number of the label blocks.
type labeled struct {
	l api.Label
	n int
	e api.Errno
}

// labelOf follows P18.3.
func labelOf(c api.Cartridge) labeled {
	if !validOf(c) {
		return labeled{e: api.ErrInvalid}
	}
	l, n, e := label.Parse(c.Blocks)
	if e != api.OK {
		return labeled{e: e}
	}
	if l.Barcode != c.Barcode {
		return labeled{e: api.ErrCorrupt}
	}
	if l.Epoch != c.Epoch {
		return labeled{e: api.ErrStale}
	}
	return labeled{l, n, api.OK}
}

// wholeAt follows the definition of a container that is whole at a block.
func wholeAt(c api.Cartridge, at int) (api.Header, int, bool) {
	h, _, e := container.Parse(c.Blocks[at:])
	if e != api.OK {
		return api.Header{}, 0, false
	}
	n := 0
	for n < container.Blocks(h) {
		if at+n >= len(c.Blocks) || c.Blocks[at+n].Mark {
			return api.Header{}, 0, false
		}
		n++
	}
	return h, n, at+n < len(c.Blocks) && c.Blocks[at+n].Mark
}

// scanned is what Scan returns, and what Tail must return.
type scanned struct {
	l    api.Label
	list []api.Found
	e    api.Errno
	tail int
}

// String describes a result.
func (s scanned) String() string {
	return fmt.Sprintf("error %d, %+v, %s, tail %d", s.e, s.l, short(s.list), s.tail)
}

// scanOf follows P18.4 and P18.6.
func scanOf(c api.Cartridge) scanned {
	found := labelOf(c)
	if found.e != api.OK {
		return scanned{e: found.e}
	}
	s := scanned{l: found.l}
	at, behind := found.n, found.n
	for at < len(c.Blocks) {
		h, n, ok := wholeAt(c, at)
		if ok {
			s.list = append(s.list, api.Found{Barcode: c.Barcode, Epoch: c.Epoch, First: at, Count: n, Header: h})
			at += n + 1
			behind = at
			continue
		}
		for at < len(c.Blocks) && !c.Blocks[at].Mark {
			at++
		}
		at++
	}
	s.tail = len(c.Blocks) - behind
	return s
}

// loaded is what Load returns.
type loaded struct {
	l []api.Block
	e api.Errno
}

// loadOf follows P18.5, with the errors of cartridge.Read (chapter 10).
func loadOf(c api.Cartridge, f api.Found) loaded {
	switch {
	case !validOf(c):
		return loaded{e: api.ErrInvalid}
	case f.Barcode != c.Barcode || f.Epoch != c.Epoch:
		return loaded{e: api.ErrStale}
	case f.First < 0 || f.Count < 0:
		return loaded{e: api.ErrRange}
	}
	var l []api.Block
	for len(l) < f.Count {
		if f.First >= len(c.Blocks)-len(l) {
			return loaded{e: api.ErrRange}
		}
		b := c.Blocks[f.First+len(l)]
		if b.Bad {
			return loaded{e: api.ErrMedia}
		}
		l = append(l, b)
	}
	return loaded{cloned(l), api.OK}
}

// paid is what Payload returns.
type paid struct {
	h       api.Header
	payload []byte
	e       api.Errno
}

// payloadOf follows P18.5.
func payloadOf(c api.Cartridge, first int) paid {
	if !validOf(c) {
		return paid{e: api.ErrInvalid}
	}
	if first < 0 || first > len(c.Blocks) {
		return paid{e: api.ErrRange}
	}
	h, payload, e := container.Payload(cloned(c.Blocks[first:]))
	return paid{h, payload, e}
}

// cloned returns the same blocks in memory of their own.
func cloned(l []api.Block) []api.Block {
	l = slices.Clone(l)
	for i := range l {
		l[i].Data = bytes.Clone(l[i].Data)
	}
	return l
}

// clonedCartridge returns the same cartridge in memory of its own.
func clonedCartridge(c api.Cartridge) api.Cartridge {
	c.Blocks = cloned(c.Blocks)
	return c
}

// sameBlocks reports whether two lists of blocks are equal; nil and empty lists are.
func sameBlocks(a, b []api.Block) bool {
	return slices.EqualFunc(a, b, func(x, y api.Block) bool {
		return x.Mark == y.Mark && x.Bad == y.Bad && bytes.Equal(x.Data, y.Data)
	})
}

// sameCartridge reports whether two cartridges are equal.
func sameCartridge(a, b api.Cartridge) bool {
	blocks := sameBlocks(a.Blocks, b.Blocks)
	a.Blocks, b.Blocks = nil, nil
	return blocks && reflect.DeepEqual(a, b)
}

// sameHeader reports whether two headers are equal.
func sameHeader(a, b api.Header) bool {
	entries := slices.Equal(a.Entries, b.Entries)
	a.Entries, b.Entries = nil, nil
	return entries && reflect.DeepEqual(a, b)
}

// sameFound reports whether two lists of containers are equal.
func sameFound(a, b []api.Found) bool {
	return slices.EqualFunc(a, b, func(x, y api.Found) bool {
		headers := sameHeader(x.Header, y.Header)
		x.Header, y.Header = api.Header{}, api.Header{}
		return headers && reflect.DeepEqual(x, y)
	})
}

// short describes a value in a message.
func short(x any) string {
	s := fmt.Sprintf("%+v", x)
	if len(s) > 600 {
		return fmt.Sprintf("%s .. (%d bytes)", s[:600], len(s))
	}
	return s
}

// name describes a cartridge in a message.
func name(c api.Cartridge) string {
	var b strings.Builder
	for _, x := range c.Blocks {
		kind := "d"
		if x.Mark {
			kind = "m"
		}
		if x.Bad {
			kind = strings.ToUpper(kind)
		}
		b.WriteString(kind)
		if n := len(x.Data); n > 0 && n < 64 || n > 64 {
			fmt.Fprint(&b, n)
		}
	}
	kinds := b.String()
	c.Blocks = nil
	return short(c) + " " + short(kinds)
}

// unchanged checks that a cartridge is what it was.
func unchanged(t *testing.T, what string, before, after api.Cartridge) {
	t.Helper()
	if !sameCartridge(before, after) {
		t.Errorf("%s: %s has become %s", what, name(before), name(after))
	}
}

// format calls Format and checks that it returns what it must, and does not change the cartridge.
func format(t *testing.T, what string, c api.Cartridge, pool string, time int) written {
	t.Helper()
	before := clonedCartridge(c)
	var got written
	got.c, got.e = volume.Format(c, pool, time)
	if want := formatOf(before, pool, time); !got.same(want) {
		t.Errorf("%s: Format of %s, %q, %d: %s, want %s", what, name(before), pool, time, got, want)
	}
	unchanged(t, what, before, c)
	return got
}

// add calls Append and checks that it returns what it must, and does not change its arguments.
func add(t *testing.T, what string, c api.Cartridge, l []api.Block) written {
	t.Helper()
	before, blocks := clonedCartridge(c), cloned(l)
	var got written
	got.c, got.first, got.e = volume.Append(c, l)
	if want := appendOf(before, blocks); !got.same(want) {
		t.Errorf("%s: Append to %s of %s: %s, want %s", what, name(before), name(api.Cartridge{Blocks: blocks}), got, want)
	}
	unchanged(t, what, before, c)
	unchanged(t, what, api.Cartridge{Blocks: blocks}, api.Cartridge{Blocks: l})
	return got
}

// find calls Label, Scan and Tail and checks that they return what they must, and do not change the cartridge.
func find(t *testing.T, what string, c api.Cartridge) scanned {
	t.Helper()
	before := clonedCartridge(c)
	want := scanOf(before)
	if l, e := volume.Label(c); l != want.l || e != want.e {
		t.Errorf("%s: Label of %s: %+v, error %d, want %+v, %d", what, name(before), l, e, want.l, want.e)
	}
	var got scanned
	got.l, got.list, got.e = volume.Scan(c)
	got.tail = volume.Tail(c)
	if got.l != want.l || got.e != want.e || got.tail != want.tail || !sameFound(got.list, want.list) {
		t.Errorf("%s: Scan and Tail of %s: %s, want %s", what, name(before), got, want)
	}
	unchanged(t, what, before, c)
	return got
}

// load calls Load and checks that it returns what it must, and does not change the cartridge.
func load(t *testing.T, what string, c api.Cartridge, f api.Found) loaded {
	t.Helper()
	before := clonedCartridge(c)
	var got loaded
	got.l, got.e = volume.Load(c, f)
	if want := loadOf(before, f); !sameBlocks(got.l, want.l) || got.e != want.e {
		t.Errorf("%s: Load of %s, %s: %s, want %s", what, name(before), short(f), short(got), short(want))
	}
	unchanged(t, what, before, c)
	return got
}

// pay calls Payload and checks that it returns what it must, and does not change the cartridge.
func pay(t *testing.T, what string, c api.Cartridge, first int) paid {
	t.Helper()
	before := clonedCartridge(c)
	var got paid
	got.h, got.payload, got.e = volume.Payload(c, first)
	if want := payloadOf(before, first); !sameHeader(got.h, want.h) || !bytes.Equal(got.payload, want.payload) || got.e != want.e {
		t.Errorf("%s: Payload of %s at %d: %s, want %s", what, name(before), first, short(got), short(want))
	}
	unchanged(t, what, before, c)
	return got
}

// examine checks all that is read from a cartridge: its label, its containers, the blocks of each of them, and the payload at each block.
func examine(t *testing.T, what string, c api.Cartridge) scanned {
	t.Helper()
	got := find(t, what, c)
	for _, f := range got.list {
		load(t, what, c, f)
	}
	for first := -1; first <= len(c.Blocks)+1; first++ {
		pay(t, what, c, first)
	}
	return got
}
