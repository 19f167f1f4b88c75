package packer_test

import (
	"bytes"
	"fmt"
	"hash/crc32"
	"math/big"
	"slices"
	"testing"

	"tapearchive/api"
	"tapearchive/packer"
)

// What the functions must return, computed sentence by sentence from the chapter, byte by byte and without the layer below.

// random is a sequence of numbers that is the same in each run.
type random uint64

// below returns the next number, from 0 to n - 1.
func (r *random) below(n int) int {
	*r = *r*6364136223846793005 + 1442695040888963407
	x := uint64(*r)
	return int((x ^ x>>33) * 0xFF51AFD7ED558CCD >> 1 % uint64(n))
}

// errorOf returns the error of P16.1 for sizes and a capacity.
func errorOf(sizes []int, capacity int) api.Errno {
	if len(sizes) > 512 {
		return api.ErrTooLong
	}
	for _, size := range sizes {
		if size < 0 || size > 4096 {
			return api.ErrRange
		}
	}
	if capacity < 1 || capacity > 1<<50 {
		return api.ErrRange
	}
	return api.OK
}

// filled is what Fill returns.
type filled struct {
	l [][]packer.Piece
	e api.Errno
}

// bytesIn returns the sum of the lengths of pieces.
func bytesIn(l []packer.Piece) int {
	sum := 0
	for _, p := range l {
		sum += p.Length
	}
	return sum
}

// fillOf follows P16.1 literally, byte by byte.
func fillOf(sizes []int, capacity int) filled {
	if e := errorOf(sizes, capacity); e != api.OK {
		return filled{e: e}
	}
	var l [][]packer.Piece
	used := 0 // in the last container
	for file, size := range sizes {
		if size == 0 {
			if len(l) == 0 || len(l[len(l)-1]) >= 64 {
				l, used = append(l, nil), 0
			}
			last := &l[len(l)-1]
			*last = append(*last, packer.Piece{File: file})
		}
		for at := range size {
			if at > 0 && used < capacity {
				// The piece with the byte before this one takes it as well.
				last := l[len(l)-1]
				last[len(last)-1].Length++
				used++
				continue
			}
			if len(l) == 0 || len(l[len(l)-1]) == 64 || used == capacity {
				l, used = append(l, nil), 0
			}
			last := &l[len(l)-1]
			*last = append(*last, packer.Piece{File: file, Offset: at, Length: 1})
			used++
		}
	}
	return filled{l: l}
}

// fitted is what FirstFit and Decreasing return.
type fitted struct {
	l [][]int
	e api.Errno
}

// sumOf returns the sum of the sizes of files.
func sumOf(sizes, files []int) int {
	sum := 0
	for _, file := range files {
		sum += sizes[file]
	}
	return sum
}

// placed follows P16.2 literally for files that are taken in this order.
func placed(sizes, order []int, capacity int) fitted {
	for _, size := range sizes {
		if size > capacity {
			return fitted{e: api.ErrFull}
		}
	}
	var l [][]int
next:
	for _, file := range order {
		for i, files := range l {
			if sizes[file]+sumOf(sizes, files) <= capacity && len(files) < 64 {
				l[i] = append(l[i], file)
				continue next
			}
		}
		l = append(l, []int{file})
	}
	return fitted{l: l}
}

// firstFitOf follows P16.2.
func firstFitOf(sizes []int, capacity int) fitted {
	if e := errorOf(sizes, capacity); e != api.OK {
		return fitted{e: e}
	}
	var order []int
	for file := range sizes {
		order = append(order, file)
	}
	return placed(sizes, order, capacity)
}

// decreasingOf follows P16.3: it takes the first one of the greatest files that are left, one after another.
func decreasingOf(sizes []int, capacity int) fitted {
	if e := errorOf(sizes, capacity); e != api.OK {
		return fitted{e: e}
	}
	var order []int
	left := slices.Clone(sizes)
	for range sizes {
		greatest := 0
		for file, size := range left {
			if size > left[greatest] {
				greatest = file
			}
		}
		order = append(order, greatest)
		left[greatest] = -1
	}
	return placed(sizes, order, capacity)
}

// leastOf follows P16.4.
func leastOf(sizes []int, capacity int) int {
	if errorOf(sizes, capacity) != api.OK {
		return 0
	}
	containers, large := 0, 0
	rest := 0
	for _, size := range sizes {
		rest += size
		if size > capacity-size {
			large++
		}
	}
	for ; rest > 0; rest -= capacity {
		containers++
	}
	return max(containers, large)
}

// entered is what Entries returns.
type entered struct {
	entries []api.Entry
	payload []byte
	e       api.Errno
}

// exceeds reports whether the sum of two ints, whatever they are, is greater than a number.
func exceeds(a, b, most int) bool {
	sum := new(big.Int).Add(big.NewInt(int64(a)), big.NewInt(int64(b)))
	return sum.Cmp(big.NewInt(int64(most))) > 0
}

// entriesError returns the error of P16.5.
func entriesError(x arguments) api.Errno {
	if len(x.ids) != len(x.versions) || len(x.ids) != len(x.data) {
		return api.ErrInvalid
	}
	for i := range x.ids {
		if x.ids[i] < 1 || x.ids[i] > 1<<50 || x.versions[i] < 1 || x.versions[i] > 1<<50 {
			return api.ErrInvalid
		}
	}
	if len(x.l) > 64 {
		return api.ErrTooLong
	}
	for _, p := range x.l {
		if p.File < 0 || p.File >= len(x.data) || p.Offset < 0 || p.Length < 0 || exceeds(p.Offset, p.Length, len(x.data[p.File])) {
			return api.ErrRange
		}
	}
	return api.OK
}

// entriesOf follows P16.5, byte by byte.
func entriesOf(x arguments) entered {
	if e := entriesError(x); e != api.OK {
		return entered{e: e}
	}
	var want entered
	for _, p := range x.l {
		var part []byte
		for i := range p.Length {
			part = append(part, x.data[p.File][p.Offset+i])
		}
		sum := crc32.Checksum(part, crc32.MakeTable(crc32.Castagnoli))
		want.entries = append(want.entries, api.Entry{File: x.ids[p.File], Version: x.versions[p.File], Offset: p.Offset, Length: p.Length, Sum: sum})
		want.payload = append(want.payload, part...)
	}
	return want
}

// arguments are those of Entries.
type arguments struct {
	l             []packer.Piece
	ids, versions []int
	data          [][]byte
}

// cloned returns the same arguments in memory of their own.
func (x arguments) cloned() arguments {
	x = arguments{slices.Clone(x.l), slices.Clone(x.ids), slices.Clone(x.versions), slices.Clone(x.data)}
	for i := range x.data {
		x.data[i] = slices.Clone(x.data[i])
	}
	return x
}

// equal reports whether two arguments are equal; nil and empty lists are.
func (x arguments) equal(y arguments) bool {
	return slices.Equal(x.l, y.l) && slices.Equal(x.ids, y.ids) && slices.Equal(x.versions, y.versions) && slices.EqualFunc(x.data, y.data, bytes.Equal)
}

// equal reports whether two lists of lists are equal; nil and empty ones are.
func equal[T comparable](a, b [][]T) bool { return slices.EqualFunc(a, b, slices.Equal[[]T]) }

// short describes a value in a message.
func short(x any) string {
	s := fmt.Sprint(x)
	if len(s) > 400 {
		return fmt.Sprintf("%s .. (%d bytes)", s[:400], len(s))
	}
	return s
}

// fill calls Fill and checks that it returns what it must, and does not change the sizes.
func fill(t *testing.T, sizes []int, capacity int) filled {
	t.Helper()
	before := slices.Clone(sizes)
	var got filled
	got.l, got.e = packer.Fill(sizes, capacity)
	if want := fillOf(before, capacity); !equal(got.l, want.l) || got.e != want.e {
		t.Errorf("Fill of %s with the capacity %d: %s, want %s", short(before), capacity, short(got), short(want))
	}
	if !slices.Equal(sizes, before) {
		t.Errorf("Fill: the sizes %s have become %s", short(before), short(sizes))
	}
	return got
}

// packing is one of the two functions that pack files as a whole.
type packing struct {
	name string
	call func(sizes []int, capacity int) ([][]int, api.Errno)
	want func(sizes []int, capacity int) fitted
}

// packings are both of them.
func packings() []packing {
	return []packing{{"FirstFit", packer.FirstFit, firstFitOf}, {"Decreasing", packer.Decreasing, decreasingOf}}
}

// pack calls one of them and checks that it returns what it must, and does not change the sizes.
func (p packing) pack(t *testing.T, sizes []int, capacity int) fitted {
	t.Helper()
	before := slices.Clone(sizes)
	var got fitted
	got.l, got.e = p.call(sizes, capacity)
	if want := p.want(before, capacity); !equal(got.l, want.l) || got.e != want.e {
		t.Errorf("%s of %s with the capacity %d: %s, want %s", p.name, short(before), capacity, short(got), short(want))
	}
	if !slices.Equal(sizes, before) {
		t.Errorf("%s: the sizes %s have become %s", p.name, short(before), short(sizes))
	}
	return got
}

// least calls Least and checks that it returns what it must, and does not change the sizes.
func least(t *testing.T, sizes []int, capacity int) int {
	t.Helper()
	before := slices.Clone(sizes)
	got := packer.Least(sizes, capacity)
	if want := leastOf(before, capacity); got != want {
		t.Errorf("Least of %s with the capacity %d: %d, want %d", short(before), capacity, got, want)
	}
	if !slices.Equal(sizes, before) {
		t.Errorf("Least: the sizes %s have become %s", short(before), short(sizes))
	}
	return got
}

// all calls the four functions that take sizes, and checks their results.
func all(t *testing.T, sizes []int, capacity int) {
	t.Helper()
	fill(t, sizes, capacity)
	for _, p := range packings() {
		p.pack(t, sizes, capacity)
	}
	least(t, sizes, capacity)
}

// entries calls Entries and checks that it returns what it must, and does not change its arguments.
func entries(t *testing.T, x arguments) entered {
	t.Helper()
	before := x.cloned()
	var got entered
	got.entries, got.payload, got.e = packer.Entries(x.l, x.ids, x.versions, x.data)
	want := entriesOf(before)
	if !slices.Equal(got.entries, want.entries) || !bytes.Equal(got.payload, want.payload) || got.e != want.e {
		t.Errorf("Entries of %s: %s, want %s", short(before), short(got), short(want))
	}
	if !x.equal(before) {
		t.Errorf("Entries: the arguments %s have become %s", short(before), short(x))
	}
	return got
}
