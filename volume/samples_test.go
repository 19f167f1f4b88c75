package volume_test

import (
	"fmt"
	"math"
	"slices"
	"strings"

	"tapearchive/api"
	"tapearchive/container"
)

// The cartridges, containers and blocks that the tests try.

// mark and badMark return marks, data and badData blocks with a text.
func mark() api.Block            { return api.Block{Mark: true} }
func badMark() api.Block         { return bad(mark()) }
func data(s string) api.Block    { return api.Block{Data: []byte(s)} }
func badData(s string) api.Block { return bad(data(s)) }

// bad returns a block that cannot be read.
func bad(b api.Block) api.Block {
	b.Bad = true
	return b
}

// one returns a block as a list.
func one(b api.Block) []api.Block { return []api.Block{b} }

// geometry returns one with this capacity, in one wrap.
func geometry(capacity int) api.Geometry {
	return api.Geometry{Wraps: 1, Length: capacity, Step: 1, Turn: 5, Jump: 3, Stream: 2}
}

// blank returns a cartridge with this capacity and without blocks, whose numbers are all different.
func blank(capacity int) api.Cartridge {
	return api.Cartridge{Barcode: "A1", Geometry: geometry(capacity), Epoch: 7, Loads: 12, Passes: 3456}
}

// own returns the label of a cartridge in the pool p.
func own(c api.Cartridge) api.Label {
	return api.Label{Barcode: c.Barcode, Pool: "p", Epoch: c.Epoch, Created: 99}
}

// sized returns a volume with this capacity: a label of two blocks, followed by others.
func sized(capacity int, parts ...[]api.Block) api.Cartridge {
	c := blank(capacity)
	c.Blocks = append(labelBlocks(own(c)), slices.Concat(parts...)...)
	c.Blocks = cloned(c.Blocks)
	return c
}

// holding returns a volume of the greatest capacity.
func holding(parts ...[]api.Block) api.Cartridge { return sized(4096, parts...) }

// mixed returns n bytes, which depend on their places and on a number.
func mixed(n, seed int) []byte {
	r := random(seed)
	b := make([]byte, n)
	for i := range b {
		b[i] = byte(r.below(256))
	}
	return b
}

// built is a container: its header, its payload and its blocks, without the mark behind them.
type built struct {
	h       api.Header
	payload []byte
	l       []api.Block
}

// String describes a container.
func (b built) String() string { return fmt.Sprintf("%d blocks of %+v", len(b.l), b.h) }

// marked returns the blocks of a container and the mark behind them.
func (b built) marked() []api.Block { return append(cloned(b.l), mark()) }

// found returns what Scan finds of a container at a block of a volume.
func (b built) found(first int) api.Found {
	return api.Found{Barcode: "A1", Epoch: 7, First: first, Count: len(b.l), Header: b.h}
}

// build returns a container.
func build(h api.Header, payload []byte) built {
	l, h, e := container.Build(h, payload)
	if e != api.OK {
		panic(fmt.Sprintf("Build of %+v: error %d", h, e))
	}
	return built{h, payload, l}
}

// files returns a data container with this number and entries of these lengths.
func files(id, version int, lengths ...int) built {
	h := api.Header{ID: id, Version: version}
	var payload []byte
	for i, n := range lengths {
		part := mixed(n, id+i)
		h.Entries = append(h.Entries, api.Entry{File: i + 1, Version: id, Length: n, Sum: build(api.Header{Kind: api.ContainerLog, Version: 1}, part).h.Sum})
		payload = append(payload, part...)
	}
	return build(h, payload)
}

// parity returns a parity container with a payload of n bytes.
func parity(id, version, n int) built {
	return build(api.Header{ID: id, Kind: api.ContainerParity, Version: version, Set: 8, Index: 2, Data: 2, Parity: 1}, mixed(n, id))
}

// commit returns a log container with a payload of n bytes.
func commit(number, version, n int) built {
	return build(api.Header{Kind: api.ContainerLog, Version: version, Commit: number}, mixed(n, number))
}

// containers are of all kinds and both versions, with and without entries and payload, with one and several header blocks.
func containers() []built {
	var list []built
	for version := 1; version <= 2; version++ {
		list = append(list,
			files(7, version), files(8, version, 0), files(9, version, 3), files(10, version, 60), files(11, version, 64, 1), files(12, version, 0, 100, 0, 55),
			files(13, version, slices.Repeat([]int{11}, 9)...), files(1<<50, version, make([]int, 64)...), files(14, version, slices.Repeat([]int{5}, 64)...),
			parity(15, version, 0), parity(16, version, 1), parity(17, version, 200),
			commit(0, version, 0), commit(18, version, 1), commit(1<<50, version, 128), commit(19, version, 120),
		)
	}
	return list
}

// few are some of them: a header alone, one payload block, and two header blocks with two payload blocks.
func few() []built { return []built{commit(5, 1, 0), commit(6, 2, 9), sample()} }

// sample is a data container of version 2 with two header blocks and two payload blocks.
func sample() built { return files(30, 2, slices.Repeat([]int{11}, 9)...) }

// piece are blocks that may be anywhere on a volume, and the containers that are found in them if a mark follows, where their first block has the number 0.
type piece struct {
	name  string
	l     []api.Block
	found []api.Found
}

// pieces are whole containers, parts of containers, single blocks and marks.
func pieces() []piece {
	b, small, header := sample(), commit(6, 1, 70), commit(5, 1, 0)
	long, inner := longer(small, 5*64), nested(small)
	last := len(b.l) - 1
	in := func(b built, first int) []api.Found { return []api.Found{b.found(first)} }
	return []piece{
		{"a container", b.marked(), in(b, 0)},
		{"a container without a mark", b.l, in(b, 0)},
		{"a container with a bad mark", append(cloned(b.l), badMark()), in(b, 0)},
		{"a container of version 1", small.marked(), in(small, 0)},
		{"a header alone", header.marked(), in(header, 0)},
		{"a header alone without a mark", header.l, in(header, 0)},
		{"bad payload blocks", changed(changed(b.marked(), 2, bad), last, bad), in(b, 0)},
		{"a container in a container", inner.marked(), in(inner, 0)},
		{"a container behind a mark in a container", with(inner.marked(), 1, mark()), in(small, 2)},
		{"a container behind a bad header", changed(inner.marked(), 0, bad), nil},
		{"a first header block", b.l[:1], nil},
		{"header blocks", b.l[:2], nil},
		{"header blocks and a mark", append(cloned(b.l[:2]), mark()), nil},
		{"a container without its last block", append(cloned(b.l[:last]), mark()), nil},
		{"a container without its first block", append(cloned(b.l[1:]), mark()), nil},
		{"a container with one more block", slices.Concat(b.l, one(data("more")), one(mark())), nil},
		{"a bad header", changed(b.marked(), 1, bad), nil},
		{"a mark in the payload", with(b.marked(), last, mark()), nil},
		{"a bad mark in the header", with(b.marked(), 1, badMark()), nil},
		{"a header that says five blocks", long.marked(), nil},
		{"a mark", one(mark()), nil},
		{"a bad mark", one(badMark()), nil},
		{"a block", one(data("single")), nil},
		{"a bad block", one(badData("single")), nil},
		{"a full block", divided(mixed(64, 3)), nil},
	}
}

// longer returns a log container whose header says another size, which its payload blocks do not have.
func longer(b built, size int) built {
	said := build(b.h, mixed(size, b.h.Commit))
	n := container.HeaderBlocks(said.h)
	return built{said.h, b.payload, append(said.l[:n], b.l[container.HeaderBlocks(b.h):]...)}
}

// nested returns a container of version 1 whose payload are a block and the full blocks of another container.
func nested(b built) built {
	payload := mixed(64, 4)
	for _, x := range b.l {
		payload = append(payload, x.Data...)
	}
	return build(api.Header{Kind: api.ContainerLog, Version: 1, Commit: 77}, payload)
}

// with returns blocks of which the one at a place has become another one.
func with(l []api.Block, at int, b api.Block) []api.Block {
	l = cloned(l)
	l[at] = b
	return l
}

// changed returns blocks of which the one at a place has changed.
func changed(l []api.Block, at int, change func(b api.Block) api.Block) []api.Block {
	l = cloned(l)
	l[at] = change(l[at])
	return l
}

// inserted returns blocks with one more at a place.
func inserted(l []api.Block, at int, b api.Block) []api.Block {
	return slices.Insert(cloned(l), at, b)
}

// named is a cartridge with what is special about it.
type named struct {
	name string
	c    api.Cartridge
}

// invalid are cartridges that are not valid by one condition alone; without it, they would be volumes with a container.
func invalid() []named {
	var list []named
	put := func(name string, change func(c *api.Cartridge)) {
		c := sized(20, few()[1].marked())
		change(&c)
		list = append(list, named{name, c})
	}
	barcode := func(s string) {
		put(fmt.Sprintf("the barcode %q", s), func(c *api.Cartridge) {
			c.Barcode = s
			c.Blocks = append(labelBlocks(own(*c)), c.Blocks[2:]...)
		})
	}
	for _, s := range []string{"", "a1", "A-", "A ", " A", "A\x00", "A\xc3\x84", strings.Repeat("A", 25), strings.Repeat("9", 100)} {
		barcode(s)
	}
	for _, n := range []int{math.MinInt, -1, 1<<50 + 1, math.MaxInt} {
		put(fmt.Sprint("the epoch ", n), func(c *api.Cartridge) {
			c.Epoch = n
			c.Blocks = append(labelBlocks(own(*c)), c.Blocks[2:]...)
		})
		put(fmt.Sprint("the loads ", n), func(c *api.Cartridge) { c.Loads = n })
		put(fmt.Sprint("the passes ", n), func(c *api.Cartridge) { c.Passes = n })
	}
	for _, n := range []int{math.MinInt, -1, 0, 4097, math.MaxInt} {
		put(fmt.Sprint("the length ", n), func(c *api.Cartridge) { c.Geometry.Length = n })
		put(fmt.Sprint("the wraps ", n), func(c *api.Cartridge) { c.Geometry.Wraps = n })
	}
	put("33 wraps", func(c *api.Cartridge) { c.Geometry.Wraps = 33 })
	put("too great a capacity", func(c *api.Cartridge) { c.Geometry.Wraps, c.Geometry.Length = 32, 129 })
	for _, n := range []int{math.MinInt, -1, 1000001, math.MaxInt} {
		put(fmt.Sprint("the step ", n), func(c *api.Cartridge) { c.Geometry.Step = n })
		put(fmt.Sprint("the turn ", n), func(c *api.Cartridge) { c.Geometry.Turn = n })
		put(fmt.Sprint("the jump ", n), func(c *api.Cartridge) { c.Geometry.Jump = n })
		put(fmt.Sprint("the stream ", n), func(c *api.Cartridge) { c.Geometry.Stream = n })
	}
	for _, b := range []api.Block{{}, {Bad: true}, {Data: make([]byte, 65)}, {Mark: true, Data: []byte{0}}, {Mark: true, Bad: true, Data: []byte("x")}} {
		put(short(b)+" among the blocks", func(c *api.Cartridge) { c.Blocks = inserted(c.Blocks, 3, b) })
		put(short(b)+" in front", func(c *api.Cartridge) { c.Blocks = inserted(c.Blocks, 0, b) })
		put(short(b)+" at the end", func(c *api.Cartridge) { c.Blocks = append(c.Blocks, b, mark()) })
	}
	put("more blocks than the capacity", func(c *api.Cartridge) { c.Geometry.Length = len(c.Blocks) - 1 })
	put("far more blocks than the capacity", func(c *api.Cartridge) { c.Geometry.Length = 1 })
	return append(list, named{"the zero cartridge", api.Cartridge{}})
}

// wrong is a cartridge of which Label returns an error.
type wrong struct {
	named
	e api.Errno
}

// unlabeled are valid cartridges of which Label returns an error; without it, they would be volumes that end with a mark.
func unlabeled() []wrong {
	var list []wrong
	rest := few()[1].marked()
	put := func(name string, e api.Errno, front []api.Block) {
		c := blank(100)
		c.Blocks = slices.Concat(front, rest)
		list = append(list, wrong{named{name, c}, e})
	}
	label := own(blank(100))
	l := labelBlocks(label)
	body := func(b string) []api.Block { return append(divided(frameOf([]byte(b))), mark()) }
	put("no label", api.ErrSyntax, nil)
	put("a mark in front", api.ErrTruncated, inserted(l, 0, mark()))
	put("a bad block in front", api.ErrMedia, inserted(l, 0, badData("x")))
	put("a bad mark in front", api.ErrMedia, inserted(l, 0, badMark()))
	put("a bad label block", api.ErrMedia, changed(l, 0, bad))
	put("a bad mark of the label", api.ErrMedia, changed(l, 1, bad))
	put("no mark of the label", api.ErrCorrupt, l[:1])
	put("a block before the mark of the label", api.ErrCorrupt, inserted(l, 1, data("x")))
	put("other bytes", api.ErrSyntax, divided(mixed(64, 1)))
	put("few bytes", api.ErrTruncated, []api.Block{data("few bytes"), mark()})
	put("another checksum", api.ErrChecksum, changed(l, 0, func(b api.Block) api.Block { b.Data[9]++; return b }))
	put("a changed pool", api.ErrChecksum, changed(l, 0, func(b api.Block) api.Block { b.Data[21]++; return b }))
	put("too great a length", api.ErrTooLong, changed(l, 0, func(b api.Block) api.Block { b.Data[3] = 1; b.Data[5] = 1; return b }))
	put("a length behind the mark", api.ErrTruncated, changed(l, 0, func(b api.Block) api.Block { b.Data[5] = 55; return b }))
	put("a byte behind the frame", api.ErrCorrupt, changed(l, 0, func(b api.Block) api.Block { b.Data[63] = 1; return b }))
	put("a body without bytes", api.ErrTruncated, body(""))
	put("another text", api.ErrSyntax, body("\x06VOLUME\x02A1\x01p\x0e\x00"))
	put("a body that continues", api.ErrTrailing, body("\x06volume\x02A1\x01p\x0e\x00\x00"))
	put("a barcode that is too long", api.ErrTooLong, body("\x06volume\x19"+strings.Repeat("A", 25)+"\x01p\x0e\x00"))
	put("a number in another form", api.ErrSyntax, body("\x06volume\x02A1\x01p\x8e\x00\x00"))
	put("a pool that is no name", api.ErrInvalid, body("\x06volume\x02A1\x01P\x0e\x00"))
	for _, barcode := range []string{"A", "A2", "A11", "1A", "B1", strings.Repeat("A", 24)} {
		other := label
		other.Barcode = barcode
		put("the label of "+barcode, api.ErrCorrupt, labelBlocks(other))
		other.Epoch++
		put("the label of "+barcode+" in another epoch", api.ErrCorrupt, labelBlocks(other))
	}
	for _, epoch := range []int{0, 1, 6, 8, 1 << 50} {
		other := label
		other.Epoch = epoch
		put(fmt.Sprint("the label of the epoch ", epoch), api.ErrStale, labelBlocks(other))
	}
	return append(list, wrong{named{"no blocks", blank(100)}, api.ErrTruncated})
}
