package container_test

import (
	"fmt"
	"slices"
	"testing"

	"tapearchive/api"
)

// fault makes Payload return an error. It changes the header, the bytes of its encoding, the frame, its blocks, or the payload blocks, of which there are no others behind. Of those of one kind, other than "", only one is put.
type fault struct {
	name, kind string
	e          api.Errno
	header     func(h *api.Header)
	body       func(b []byte) []byte
	frame      func(b []byte) []byte
	front      func(l []api.Block) []api.Block
	rest       func(l []api.Block) []api.Block
}

// base returns a header of two blocks, the second one of which has room behind the frame, and its payload.
func base(version int) (api.Header, []byte) {
	h, payload := parts(version, 70, 0, 58)
	for i := range h.Entries {
		h.Entries[i].File += 1 << 40
	}
	return h, payload
}

// made returns the blocks of a container with faults. Of those that change the same, the last one is put first: thus one that cuts off what is behind it is put after those that are behind it.
func made(version int, faults []fault) []api.Block {
	h, payload := base(version)
	rest := payloadBlocksOf(version, payload)
	for _, f := range slices.Backward(faults) {
		if f.header != nil {
			f.header(&h)
		}
	}
	b := bodyOf(numbersOf(h))
	for _, f := range slices.Backward(faults) {
		if f.body != nil {
			b = f.body(b)
		}
	}
	b = frameOf(b)
	for _, f := range slices.Backward(faults) {
		if f.frame != nil {
			b = f.frame(b)
		}
	}
	front := divided(b)
	for _, f := range slices.Backward(faults) {
		if f.front != nil {
			front = f.front(front)
		}
	}
	for _, f := range slices.Backward(faults) {
		if f.rest != nil {
			rest = f.rest(rest)
		}
	}
	return append(front, rest...)
}

// frameFaults are those for the errors of frame.Next, in their order.
func frameFaults() []fault {
	change := func(at int, given ...byte) func(b []byte) []byte {
		return func(b []byte) []byte { return put(b, at, given...) }
	}
	return []fault{
		{name: "a mark", kind: "blocks", e: api.ErrTruncated, front: func(l []api.Block) []api.Block { return inserted(l, 0, mark()) }},
		{name: "a bad block", kind: "blocks", e: api.ErrTruncated, front: func(l []api.Block) []api.Block { return inserted(l, 0, api.Block{Bad: true, Data: l[0].Data}) }},
		{name: "9 bytes", kind: "blocks", e: api.ErrTruncated, front: func(l []api.Block) []api.Block { return []api.Block{{Data: l[0].Data[:9]}, mark()} }},
		{name: "other magic bytes", e: api.ErrSyntax, frame: change(1, 0x3D)},
		{name: "a length that is too great", kind: "length", e: api.ErrTooLong, frame: change(2, 0, 1, 0, 1)},
		{name: "a length of more bytes", kind: "length", e: api.ErrTruncated, frame: change(2, 0, 1, 0, 0)},
		{name: "a mark in the header", kind: "length", e: api.ErrTruncated, front: func(l []api.Block) []api.Block {
			return slices.Concat([]api.Block{{Data: l[0].Data[:12]}, mark(), {Data: l[0].Data[12:]}}, l[1:])
		}},
		{name: "another checksum", e: api.ErrChecksum, frame: func(b []byte) []byte { return put(b, 7, b[7]+1) }},
	}
}

// frontFaults are those for the error ErrSyntax of the blocks of a header.
func frontFaults() []fault {
	return []fault{
		{name: "too few blocks", kind: "joined", e: api.ErrSyntax, front: func(l []api.Block) []api.Block { return []api.Block{{Data: bytesOf(l)}} },
			rest: func(l []api.Block) []api.Block { return nil }},
		{name: "joined blocks", kind: "joined", e: api.ErrSyntax, front: func(l []api.Block) []api.Block { return []api.Block{{Data: bytesOf(l)}} }},
		{name: "divided blocks", e: api.ErrSyntax, front: func(l []api.Block) []api.Block {
			n := len(l[0].Data) - 1
			return slices.Concat([]api.Block{{Data: l[0].Data[:n]}, {Data: l[0].Data[n:]}}, l[1:])
		}},
		{name: "a block without data", e: api.ErrSyntax, front: func(l []api.Block) []api.Block { return inserted(l, 1, api.Block{}) }},
		{name: "a byte behind the frame", e: api.ErrSyntax, front: func(l []api.Block) []api.Block {
			last := l[len(l)-1]
			last.Data[len(last.Data)-1]++
			return l
		}},
	}
}

// corruptFaults are those for ErrCorrupt.
func corruptFaults() []fault {
	list := []fault{
		{name: "a body that is cut", kind: "body", e: api.ErrCorrupt, body: func(b []byte) []byte { return b[:len(b)-1] }},
		{name: "a body that continues", kind: "body", e: api.ErrCorrupt, body: func(b []byte) []byte { return append(b, 1) }},
		{name: "another form of the ID", kind: "body", e: api.ErrCorrupt, body: func(b []byte) []byte { return append([]byte{b[0] + 128, 0}, b[1:]...) }},
	}
	for _, c := range []struct {
		name   string
		change func(h *api.Header)
	}{
		{"ID", func(h *api.Header) { h.ID = 0 }},
		{"Kind", func(h *api.Header) { h.Kind = 3 }},
		{"Version", func(h *api.Header) { h.Version = 3 }},
		{"Set", func(h *api.Header) { h.Set = 1 << 51 }},
		{"Index", func(h *api.Header) { h.Index = 1 }},
		{"Data", func(h *api.Header) { h.Data = 17 }},
		{"Parity", func(h *api.Header) { h.Parity = 16 }},
		{"Commit", func(h *api.Header) { h.Commit = -1 }},
		{"File", func(h *api.Header) { h.Entries[0].File = 1<<50 + 1 }},
		{"version of an entry", func(h *api.Header) { h.Entries[1].Version = 0 }},
		{"Offset", func(h *api.Header) { h.Entries[2].Offset = 4096 }},
		{"Length", func(h *api.Header) { h.Entries[2].Length++ }},
		{"Size", func(h *api.Header) { h.Size = 9 }},
		{"number of entries", func(h *api.Header) { h.Entries = slices.Repeat(h.Entries, 22) }},
	} {
		list = append(list, fault{name: "a " + c.name + " that is not valid", e: api.ErrCorrupt, header: c.change})
	}
	return list
}

// blockFaults are those of a payload block, in the order of their errors. Without those of version 2, the data remain right if their number does.
func blockFaults(version, at int) []fault {
	var list []fault
	put := func(name, kind string, e api.Errno, change func(b *api.Block)) {
		list = append(list, fault{name: fmt.Sprintf("%s, block %d", name, at), kind: fmt.Sprint(kind, at), e: e, rest: func(l []api.Block) []api.Block {
			l = cloned(l)
			change(&l[at])
			return l
		}})
	}
	put("bad", "bad", api.ErrMedia, func(b *api.Block) { b.Bad = true })
	put("a mark", "mark", api.ErrSyntax, func(b *api.Block) { b.Mark = true })
	put("too long", "length", api.ErrSyntax, func(b *api.Block) { b.Data = append(b.Data, 0) })
	put("too short", "length", api.ErrSyntax, func(b *api.Block) { b.Data = b.Data[:len(b.Data)-1] })
	put("empty", "length", api.ErrSyntax, func(b *api.Block) { b.Data = nil })
	if version == 2 {
		put("changed", "data", api.ErrChecksum, func(b *api.Block) { b.Data[0]++ })
		put("another checksum", "sum", api.ErrChecksum, func(b *api.Block) { b.Data[len(b.Data)-1]++ })
	}
	return list
}

// sumFaults are those for the error ErrChecksum of the payload and of the parts. In version 1 a changed byte is one of them.
func sumFaults(version int) []fault {
	list := []fault{
		{name: "another sum", e: api.ErrChecksum, header: func(h *api.Header) { h.Sum++ }},
		{name: "another sum of the first entry", e: api.ErrChecksum, header: func(h *api.Header) { h.Entries[0].Sum++ }},
		{name: "another sum of the second entry", e: api.ErrChecksum, header: func(h *api.Header) { h.Entries[1].Sum++ }},
		{name: "another sum of the last entry", e: api.ErrChecksum, header: func(h *api.Header) { h.Entries[2].Sum++ }},
	}
	if version == 1 {
		list = append(list, fault{name: "a changed byte", e: api.ErrChecksum, rest: func(l []api.Block) []api.Block {
			l = cloned(l)
			l[1].Data[7]++
			return l
		}})
	}
	return list
}

// allFaults are all faults in the order of their errors.
func allFaults(version int) []fault {
	truncated := []fault{
		{name: "a block is missing", kind: "cut", e: api.ErrTruncated, rest: func(l []api.Block) []api.Block { return l[:len(l)-1] }},
		{name: "no payload blocks", kind: "cut", e: api.ErrTruncated, rest: func(l []api.Block) []api.Block { return nil }},
	}
	list := slices.Concat(frameFaults(), frontFaults(), corruptFaults(), truncated)
	h, payload := base(version)
	for at := range len(buildOf(h, payload).l) - len(headerOf(h)) {
		list = append(list, blockFaults(version, at)...)
	}
	return append(list, sumFaults(version)...)
}

// together reports whether faults, of which the last one is new, can be put together.
func together(faults ...fault) bool {
	last := len(faults) - 1
	return faults[last].kind == "" || !slices.ContainsFunc(faults[:last], func(f fault) bool { return f.kind == faults[last].kind })
}

// checkFaults checks Payload with these faults, which are in the order of their errors.
func checkFaults(t *testing.T, version int, faults ...fault) {
	t.Helper()
	l := made(version, faults)
	if got := pay(t, l); got.e != faults[0].e {
		names := ""
		for _, f := range faults {
			names += "; " + f.name
		}
		t.Errorf("version %d%s: Payload of %s: error %d, want %d", version, names, name(l), got.e, faults[0].e)
	}
}

// P15.3, P15.4: each error alone, every two of them and every three of them together, in the order of the errors
func TestOrderOfErrors(t *testing.T) {
	for version := 1; version <= 2; version++ {
		all := allFaults(version)
		for i, first := range all {
			checkFaults(t, version, first)
			for k, second := range all[i+1:] {
				if !together(first, second) {
					continue
				}
				checkFaults(t, version, first, second)
				for _, third := range all[i+k+2:] {
					if together(first, third) && together(second, third) {
						checkFaults(t, version, first, second, third)
					}
				}
			}
		}
	}
}

// P15.3: Parse returns the same error as Payload for those faults that concern it, and none for the others.
func TestOrderOfErrorsOfParse(t *testing.T) {
	for version := 1; version <= 2; version++ {
		own := len(frameFaults()) + len(frontFaults()) + len(corruptFaults())
		all := allFaults(version)
		for i, first := range all {
			for k, second := range all[i:] {
				if k > 0 && !together(first, second) {
					continue
				}
				want := first.e
				if i >= own {
					want = api.OK
				}
				if got := parse(t, made(version, []fault{first, second}[:min(k+1, 2)])); got.e != want {
					t.Errorf("version %d; %s; %s: error %d, want %d", version, first.name, second.name, got.e, want)
				}
			}
		}
	}
}

// P15.3, P15.4: without a fault, there is no error.
func TestWithoutFault(t *testing.T) {
	for version := 1; version <= 2; version++ {
		h, payload := base(version)
		l := made(version, nil)
		accept(t, "no fault", l, h)
		whole(t, "no fault", l, h, payload)
		if n := len(frameOf(bodyOf(numbersOf(h)))); n <= 64 || n >= 128 {
			t.Errorf("the frame has %d bytes", n)
		}
	}
}

// P15.6: all errors of Extract, with each one of those behind it, in their order
func TestOrderOfErrorsOfExtract(t *testing.T) {
	for version := 1; version <= 2; version++ {
		h, payload := parts(version, 70, 0, 300, 1)
		x := bytesIn{2, 30, 200}
		l := blocksFor(h, payload, x)
		blocks := [][]api.Block{l, l[1:], append(cloned(l), l[0]), nil}
		for at := range l {
			for _, bad := range badBlocks(version, l[at]) {
				blocks = append(blocks, replaced(l, at, bad.b), replaced(l, at, bad.b)[:len(l)-1], append(replaced(l, at, bad.b), bad.b))
			}
		}
		for _, header := range append([]named{{"valid", h}}, invalid()...) {
			for _, entry := range []int{2, -1, 4} {
				for _, offset := range []int{30, -1, 101} {
					for i, given := range blocks {
						got := extract(t, header.h, entry, offset, 200, given)
						want := api.OK
						switch {
						case header.name != "valid":
							want = api.ErrInvalid
						case entry != 2:
							want = api.ErrNotFound
						case offset != 30:
							want = api.ErrRange
						case len(given) != len(l):
							want = api.ErrInvalid
						case i > 0:
							continue
						}
						if got.e != want {
							t.Errorf("version %d, %s, entry %d, offset %d, %s: %+v, want the error %d", version, header.name, entry, offset, name(given), got, want)
						}
					}
				}
			}
			// One invalid header is as good as another with these blocks.
			if header.name != "valid" {
				blocks = blocks[:5]
			}
		}
	}
}
