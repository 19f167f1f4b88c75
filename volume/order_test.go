package volume_test

import (
	"math"
	"slices"
	"testing"

	"tapearchive/api"
)

// fault makes a function return an error, by a change of its arguments; some have none. Of those of one kind, other than "", only one is put.
type fault[T any] struct {
	name, kind string
	e          api.Errno
	put        func(x *T)
}

// together calls a function with each set of faults, of which there is at most one of each kind, and the arguments with them. The faults are in the order of their errors, and the last one is put first.
func together[T any](all []fault[T], base func() T, call func(names string, x T, want api.Errno)) {
	choose(all, nil, func(set []fault[T]) {
		x, want := base(), api.OK
		names := ""
		for _, f := range slices.Backward(set) {
			f.put(&x)
		}
		for _, f := range set {
			names += f.name + "; "
			if want == api.OK {
				want = f.e
			}
		}
		call(names, x, want)
	})
}

// choose calls a function with each set of faults that contains those that are chosen, and any of the others, but only one of each kind.
func choose[T any](others, chosen []fault[T], call func(set []fault[T])) {
	if len(others) == 0 {
		call(chosen)
		return
	}
	f := others[0]
	choose(others[1:], chosen, call)
	if f.kind == "" || !slices.ContainsFunc(chosen, func(g fault[T]) bool { return g.kind == f.kind }) {
		choose(others[1:], append(slices.Clone(chosen), f), call)
	}
}

// parts are the arguments of all functions.
type parts struct {
	c     api.Cartridge
	pool  string
	time  int
	l     []api.Block
	f     api.Found
	first int
}

// of returns a fault.
func of(kind, name string, e api.Errno, put func(x *parts)) fault[parts] {
	return fault[parts]{name: name, kind: kind, e: e, put: put}
}

// invalidFaults are some by which a cartridge is not valid.
func invalidFaults() []fault[parts] {
	return []fault[parts]{
		of("barcode", "no barcode", api.ErrInvalid, func(x *parts) { x.c.Barcode = "a" }),
		of("epoch", "a negative epoch", api.ErrInvalid, func(x *parts) { x.c.Epoch = -1 }),
		of("capacity", "too many wraps", api.ErrInvalid, func(x *parts) { x.c.Geometry.Wraps = 33 }),
		of("", "an empty block", api.ErrInvalid, func(x *parts) { x.c.Blocks = append(x.c.Blocks[:len(x.c.Blocks):len(x.c.Blocks)], api.Block{}) }),
	}
}

// P18.1: all errors of Format together, with and without blocks
func TestOrderOfErrorsOfFormat(t *testing.T) {
	for _, blocks := range [][]api.Block{nil, {data("x")}} {
		// Without blocks, nothing is erased.
		protected, last := api.OK, api.OK
		if len(blocks) > 0 {
			protected, last = api.ErrProtected, api.ErrRange
		}
		faults := append(invalidFaults(),
			of("pool", "no pool", api.ErrInvalid, func(x *parts) { x.pool = "" }),
			of("pool", "a pool that is no name", api.ErrInvalid, func(x *parts) { x.pool = "1p" }),
			of("time", "a negative time", api.ErrInvalid, func(x *parts) { x.time = -1 }),
			of("time", "Forever", api.ErrInvalid, func(x *parts) { x.time = api.Forever }),
			of("", "locked", api.ErrProtected, func(x *parts) { x.c.Locked = true }),
			of("", "write-once", protected, func(x *parts) { x.c.WriteOnce = true }),
			of("epoch", "the last epoch", last, func(x *parts) { x.c.Epoch = 1 << 50 }),
			of("capacity", "too small", api.ErrFull, func(x *parts) { x.c.Geometry.Length = 1 }),
		)
		base := func() parts {
			c := blank(9)
			c.Blocks = cloned(blocks)
			return parts{c: c, pool: "p", time: 3}
		}
		together(faults, base, func(names string, x parts, want api.Errno) {
			if want == api.OK {
				formats(t, names, x.c, x.pool, x.time, x.c.Epoch+min(len(blocks), 1))
			} else {
				refuses(t, names, x.c, x.pool, x.time, want)
			}
		})
	}
}

// labelFaults are those of Label for valid cartridges, in the order of their errors.
func labelFaults() []fault[parts] {
	return []fault[parts]{
		of("label", "a bad label", api.ErrMedia, func(x *parts) { x.c.Blocks[0].Bad = true }),
		of("label", "a mark instead of a label", api.ErrTruncated, func(x *parts) { x.c.Blocks[0] = mark() }),
		of("label", "other bytes", api.ErrChecksum, func(x *parts) { x.c.Blocks[0].Data[12]++ }),
		of("label", "no mark", api.ErrCorrupt, func(x *parts) { x.c.Blocks[1] = data("x") }),
		of("barcode", "another barcode", api.ErrCorrupt, func(x *parts) { x.c.Barcode = "A2" }),
		of("epoch", "another epoch", api.ErrStale, func(x *parts) { x.c.Epoch++ }),
	}
}

// volumeOf returns a volume with two containers, and arguments that have no errors for it.
func volumeOf() parts {
	b := sample()
	c := sized(40, few()[1].marked(), b.marked())
	first := len(c.Blocks) - len(b.l) - 1
	return parts{c: c, l: cloned(b.l), f: b.found(first), first: first}
}

// P18.3, P18.4, P18.6: all errors of Label together
func TestOrderOfErrorsOfLabel(t *testing.T) {
	together(append(invalidFaults(), labelFaults()...), volumeOf, func(names string, x parts, want api.Errno) {
		if want == api.OK {
			shows(t, names, x.c, 0, few()[1].found(2), sample().found(x.first))
		} else {
			hides(t, names, x.c, want)
		}
	})
}

// P18.2: all errors of Append together
func TestOrderOfErrorsOfAppend(t *testing.T) {
	faults := append(append(invalidFaults(), labelFaults()...),
		of("", "no mark at the end", api.ErrState, func(x *parts) { x.c.Blocks[len(x.c.Blocks)-1] = data("x") }),
		of("list", "no blocks", api.ErrInvalid, func(x *parts) { x.l = nil }),
		of("list", "a block is missing", api.ErrInvalid, func(x *parts) { x.l = x.l[:len(x.l)-1] }),
		of("list", "a block more", api.ErrInvalid, func(x *parts) { x.l = append(x.l, mark()) }),
		of("list", "a damaged payload", api.ErrInvalid, func(x *parts) { x.l[len(x.l)-1].Data[0]++ }),
		of("", "locked", api.ErrProtected, func(x *parts) { x.c.Locked = true }),
		of("", "write-once", api.OK, func(x *parts) { x.c.WriteOnce = true }),
		of("capacity", "full", api.ErrFull, func(x *parts) { x.c.Geometry.Length = len(x.c.Blocks) }),
		of("capacity", "a block is missing", api.ErrFull, func(x *parts) { x.c.Geometry.Length = len(x.c.Blocks) + len(x.l) }),
	)
	together(faults, volumeOf, func(names string, x parts, want api.Errno) {
		if want == api.OK {
			adds(t, names, x.c, sample())
		} else {
			denies(t, names, x.c, x.l, want)
		}
	})
}

// P18.5: all errors of Load together
func TestOrderOfErrorsOfLoad(t *testing.T) {
	faults := append(invalidFaults(),
		of("", "another barcode", api.ErrStale, func(x *parts) { x.f.Barcode = "A3" }),
		of("", "another epoch", api.ErrStale, func(x *parts) { x.f.Epoch-- }),
		of("first", "a negative first block", api.ErrRange, func(x *parts) { x.f.First = -1 }),
		of("count", "a negative number", api.ErrRange, func(x *parts) { x.f.Count = -1 }),
		of("first", "a first block behind the end of data", api.ErrRange, func(x *parts) { x.f.First = math.MaxInt }),
		of("", "a bad block", api.ErrMedia, func(x *parts) { x.c.Blocks[x.first+3].Bad = true }),
		of("count", "too great a number", api.ErrRange, func(x *parts) { x.f.Count = math.MaxInt }),
		of("", "a bad label", api.OK, func(x *parts) { x.c.Blocks[0].Bad = true }),
	)
	together(faults, volumeOf, func(names string, x parts, want api.Errno) {
		if want == api.OK {
			gives(t, names, x.c, x.f, sample())
		} else {
			keeps(t, names, x.c, x.f, want)
		}
	})
}

// P18.5: all errors of Payload together
func TestOrderOfErrorsOfPayload(t *testing.T) {
	faults := append(invalidFaults(),
		of("first", "a negative block", api.ErrRange, func(x *parts) { x.first = -1 }),
		of("first", "a block behind the end of data", api.ErrRange, func(x *parts) { x.first = len(x.c.Blocks) + 1 }),
		of("first", "the end of data", api.ErrTruncated, func(x *parts) { x.first = len(x.c.Blocks) }),
		of("first", "the second header block", api.ErrSyntax, func(x *parts) { x.first++ }),
		of("header", "a bad header", api.ErrTruncated, func(x *parts) { x.c.Blocks[x.first].Bad = true }),
		of("header", "another header", api.ErrChecksum, func(x *parts) { x.c.Blocks[x.first].Data[20]++ }),
		of("payload", "a bad block", api.ErrMedia, func(x *parts) { x.c.Blocks[x.first+2].Bad = true }),
		of("last", "a mark", api.ErrSyntax, func(x *parts) { x.c.Blocks[x.first+3] = mark() }),
		of("last", "another byte", api.ErrChecksum, func(x *parts) { x.c.Blocks[x.first+3].Data[0]++ }),
		of("", "a bad label", api.OK, func(x *parts) { x.c.Blocks[0].Bad = true }),
	)
	together(faults, volumeOf, func(names string, x parts, want api.Errno) {
		if want == api.OK {
			gives(t, names, x.c, x.f, sample())
		} else {
			owes(t, names, x.c, x.first, want)
		}
	})
}
