package label_test

import (
	"bytes"
	"slices"
	"strings"
	"testing"

	"tapearchive/api"
)

// fault makes Parse return an error. It changes the fields of the body (the sixth one is what follows the last number), the frame, or the blocks. Of those of one kind, other than "", only one is put.
type fault struct {
	name, kind string
	e          api.Errno
	body       func(fields [][]byte)
	frame      func(b []byte) []byte
	blocks     func(l []api.Block) []api.Block
}

// made returns the blocks of a label with faults. Of those that change the same part, the last one is put first: thus one that cuts off what is behind it is put after those that are behind it.
func made(faults []fault) []api.Block {
	fields := append(fieldsOf(chapter()), nil)
	for _, f := range slices.Backward(faults) {
		if f.body != nil {
			f.body(fields)
		}
	}
	b := frameOf(slices.Concat(fields...))
	for _, f := range slices.Backward(faults) {
		if f.frame != nil {
			b = f.frame(b)
		}
	}
	// There is room behind each frame, also if it fills its blocks.
	l := append(divided(append(b, make([]byte, 64-len(b)%64)...)), mark())
	for _, f := range slices.Backward(faults) {
		if f.blocks != nil {
			l = f.blocks(l)
		}
	}
	return l
}

// markAt returns the place of the mark, or that behind the blocks.
func markAt(l []api.Block) int {
	if at := slices.IndexFunc(l, func(b api.Block) bool { return b.Mark }); at >= 0 {
		return at
	}
	return len(l)
}

// mediaFaults are those for ErrMedia.
func mediaFaults() []fault {
	return []fault{
		{name: "a bad block in front", e: api.ErrMedia, blocks: func(l []api.Block) []api.Block {
			return inserted(l, 0, api.Block{Bad: true})
		}},
		{name: "a bad first block", e: api.ErrMedia, blocks: func(l []api.Block) []api.Block {
			l[0].Bad = true
			return l
		}},
		{name: "a bad block before the mark", e: api.ErrMedia, blocks: func(l []api.Block) []api.Block {
			return inserted(l, markAt(l), api.Block{Bad: true, Data: []byte("x")})
		}},
		{name: "a bad mark", kind: "mark", e: api.ErrMedia, blocks: func(l []api.Block) []api.Block {
			l[markAt(l)].Bad = true
			return l
		}},
	}
}

// frameFaults are those for the errors of frame.Next, in their order.
func frameFaults() []fault {
	length := func(given ...byte) func(b []byte) []byte {
		return func(b []byte) []byte { return with(b, 2, given...) }
	}
	return []fault{
		{name: "9 bytes", e: api.ErrTruncated, blocks: func(l []api.Block) []api.Block {
			return append([]api.Block{{Data: bytesOf(l)[:9]}}, l[markAt(l):]...)
		}},
		{name: "other magic bytes", e: api.ErrSyntax, frame: func(b []byte) []byte { return with(b, 1, 0xA7) }},
		{name: "a length that is too great", kind: "length", e: api.ErrTooLong, frame: length(0, 1, 0, 1)},
		{name: "a length of more bytes", kind: "length", e: api.ErrTruncated, frame: length(0, 1, 0, 0)},
		{name: "another checksum", e: api.ErrChecksum, frame: func(b []byte) []byte { return with(b, 7, b[7]+1) }},
	}
}

// fieldFaults are those for the errors of a field, in any order, because only one of them is put.
func fieldFaults(number int, name string) []fault {
	var list []fault
	put := func(what string, e api.Errno, b []byte, cut bool) {
		list = append(list, fault{name: name + ": " + what, kind: name, e: e, body: func(fields [][]byte) {
			fields[number] = b
			if cut {
				clear(fields[number+1:])
			}
		}})
	}
	put("nothing", api.ErrTruncated, nil, true)
	put("a number that is cut", api.ErrTruncated, []byte{200}, true)
	put("a number that is too long", api.ErrTooLong, bytes.Repeat([]byte{255}, 10), false)
	put("a number of two forms", api.ErrSyntax, []byte{129, 0}, false)
	if number < 3 {
		put("a text that is cut", api.ErrTruncated, textOf(letters[:24])[:24], true)
		put("a text that is too long", api.ErrTooLong, textOf(letters[:25]), false)
		put("a text that is too long and cut", api.ErrTooLong, []byte{25}, true)
	}
	return list
}

// invalidFaults are those for ErrInvalid.
func invalidFaults() []fault {
	put := func(name, kind string, number int, b []byte) fault {
		return fault{name: name, kind: kind, e: api.ErrInvalid, body: func(fields [][]byte) { fields[number] = b }}
	}
	return []fault{
		put("no barcode", "barcode", 1, textOf("")),
		put("another barcode", "barcode", 1, textOf("a1")),
		put("no pool", "pool", 2, textOf("")),
		put("another pool", "pool", 2, textOf("1p")),
		put("a negative epoch", "epoch", 3, intOf(-1)),
		put("a great epoch", "epoch", 3, intOf(1<<50+1)),
		put("a negative time", "created", 4, intOf(-1)),
		put("a great time", "created", 4, intOf(1<<40)),
	}
}

// corruptFaults are those for ErrCorrupt.
func corruptFaults() []fault {
	return []fault{
		{name: "a block without data in front", e: api.ErrCorrupt, blocks: func(l []api.Block) []api.Block { return inserted(l, 0, api.Block{}) }},
		{name: "no mark", kind: "mark", e: api.ErrCorrupt, blocks: func(l []api.Block) []api.Block { return l[:markAt(l)] }},
		{name: "data in the mark", kind: "mark", e: api.ErrCorrupt, blocks: func(l []api.Block) []api.Block {
			l[markAt(l)].Data = []byte("x")
			return l
		}},
		{name: "a byte behind the frame", e: api.ErrCorrupt, blocks: func(l []api.Block) []api.Block {
			last := l[markAt(l)-1]
			last.Data[len(last.Data)-1] = 1
			return l
		}},
		{name: "a divided block", e: api.ErrCorrupt, blocks: func(l []api.Block) []api.Block {
			return slices.Concat([]api.Block{{Data: l[0].Data[:5]}, {Data: l[0].Data[5:]}}, l[1:])
		}},
		{name: "another block before the mark", e: api.ErrCorrupt, blocks: func(l []api.Block) []api.Block {
			return inserted(l, markAt(l), data(strings.Repeat("x", 64)))
		}},
	}
}

// allFaults are all faults in the order of their errors.
func allFaults() []fault {
	return slices.Concat(
		mediaFaults(), frameFaults(), fieldFaults(0, "volume"),
		[]fault{{name: "another text", kind: "volume", e: api.ErrSyntax, body: func(fields [][]byte) { fields[0] = textOf("Volume") }}},
		fieldFaults(1, "barcode"), fieldFaults(2, "pool"), fieldFaults(3, "epoch"), fieldFaults(4, "created"),
		[]fault{{name: "a body that continues", e: api.ErrTrailing, body: func(fields [][]byte) { fields[5] = []byte{0} }}},
		invalidFaults(), corruptFaults())
}

// together reports whether faults, of which the last one is new, can be put together.
func together(faults []fault) bool {
	last := len(faults) - 1
	return faults[last].kind == "" || !slices.ContainsFunc(faults[:last], func(f fault) bool { return f.kind == faults[last].kind })
}

// checkFaults checks Parse with these faults, which are in the order of their errors.
func checkFaults(t *testing.T, faults ...fault) {
	t.Helper()
	blocks := made(faults)
	if got := parse(t, blocks); got != failed(faults[0].e) {
		names := ""
		for _, f := range faults {
			names += "; " + f.name
		}
		t.Errorf("Parse of %s%s: %+v, want the error %d", name(blocks), names, got, faults[0].e)
	}
}

// P14.4: each error alone, every two of them and every three of them together, in the order of the errors
func TestOrderOfErrors(t *testing.T) {
	all := allFaults()
	for i, first := range all {
		checkFaults(t, first)
		for k, second := range all[i+1:] {
			if !together([]fault{first, second}) {
				continue
			}
			checkFaults(t, first, second)
			for _, third := range all[i+k+2:] {
				if together([]fault{first, third}) && together([]fault{second, third}) {
					checkFaults(t, first, second, third)
				}
			}
		}
	}
}

// P14.4: without a fault, there is no error.
func TestWithoutFault(t *testing.T) {
	accept(t, "no fault", made(nil), chapter())
}
