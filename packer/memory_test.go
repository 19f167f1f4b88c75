package packer_test

import (
	"bytes"
	"slices"
	"testing"

	"tapearchive/api"
	"tapearchive/packer"
)

// roomy returns the same elements with others behind them, in memory that has room for these.
func roomy[T any](l []T, behind ...T) []T {
	return slices.Concat(l, behind)[:len(l)]
}

// whole returns all that is in the memory of a list, in new memory.
func whole[T any](l []T) []T { return slices.Clone(l[:cap(l)]) }

// spoil changes all that is in the memory of a list.
func spoil[T any](l []T, with T) {
	l = l[:cap(l)]
	for i := range l {
		l[i] = with
	}
}

// copied returns lists in memory of their own.
func copied[T any](l [][]T) [][]T {
	l = slices.Clone(l)
	for i := range l {
		l[i] = slices.Clone(l[i])
	}
	return l
}

// checkSeparate checks that no two lists of a result share memory, also not behind their ends: what is written to all of the memory of one stays there.
func checkSeparate[T comparable](t *testing.T, what string, l [][]T, element func(i int) T) {
	t.Helper()
	for i := range l {
		spoil(l[i], element(i))
	}
	for i := range l {
		if slices.ContainsFunc(whole(l[i]), func(x T) bool { return x != element(i) }) {
			t.Errorf("%s: container %d shares memory with another one", what, i)
		}
	}
}

// checkMemory checks that a function does not change the sizes, nor what is behind them, and that its results share no memory with them, with each other or with those of another call.
func checkMemory[T comparable](t *testing.T, what string, call func(sizes []int, capacity int) ([][]T, api.Errno), list []int, capacity int, element func(i int) T) {
	t.Helper()
	want, _ := call(slices.Clone(list), capacity)
	want = copied(want)
	sizes := roomy(list, 1, 2, 3, -1, 5000)
	before := whole(sizes)
	l, _ := call(sizes, capacity)
	again, _ := call(sizes, capacity)
	if !slices.Equal(whole(sizes), before) {
		t.Errorf("%s: the memory of %s has become %s", what, short(before), short(whole(sizes)))
	}
	for i := range again {
		spoil(again[i], element(77))
	}
	spoil(again, nil)
	if !equal(l, want) {
		t.Errorf("%s of %s: two results share memory", what, short(list))
	}
	if !slices.Equal(whole(sizes), before) {
		t.Errorf("%s of %s: the result shares memory with the sizes", what, short(list))
	}
	spoil(sizes, 77)
	if !equal(l, want) {
		t.Errorf("%s of %s: the result shares memory with the sizes, or depends on what is behind them", what, short(list))
	}
	checkSeparate(t, what, l, element)
}

// R3: Fill, FirstFit and Decreasing
func TestContainersShareNoMemory(t *testing.T) {
	sizes := append(mixedSizes(), nil, []int{5, 4, 3, 2, 1}, []int{0, 0, 0}, []int{100, 30, 20}, []int{9, 1, 9, 1, 9})
	for _, list := range sizes {
		for _, capacity := range []int{64, 100, 4096, 1 << 50} {
			checkMemory(t, "Fill", packer.Fill, list, capacity, func(i int) packer.Piece { return piece(-1, i, i) })
			if slices.Max(append(list, 0)) <= capacity {
				for _, p := range packings() {
					checkMemory(t, p.name, p.call, list, capacity, func(i int) int { return -1 - i })
				}
			}
		}
	}
}

// R3: Least does not change what is behind the sizes, and does not depend on it.
func TestLeastOfRoomySizes(t *testing.T) {
	for _, list := range mixedSizes() {
		sizes := roomy(list, 4096, -1, 5000, 4096)
		before := whole(sizes)
		if n := packer.Least(sizes, 64); n != leastOf(list, 64) || !slices.Equal(whole(sizes), before) {
			t.Errorf("Least of %s: %d, and the memory is %s", short(before), n, short(whole(sizes)))
		}
	}
}

// roomyArguments returns the same arguments with others behind each list.
func roomyArguments(x arguments) arguments {
	x = x.cloned()
	for i := range x.data {
		x.data[i] = roomy(x.data[i], []byte("behind")...)
	}
	return arguments{roomy(x.l, piece(0, 0, 1), piece(9, 9, 9)), roomy(x.ids, 5, 0), roomy(x.versions, 5, 0), roomy(x.data, []byte("behind"), nil)}
}

// wholeOf returns the arguments with all that is in their memory, in new memory.
func wholeOf(x arguments) arguments {
	x = arguments{whole(x.l), whole(x.ids), whole(x.versions), whole(x.data)}
	for i := range x.data {
		x.data[i] = whole(x.data[i])
	}
	return x
}

// spoilArguments changes all that is in the memory of arguments.
func spoilArguments(x arguments) {
	for _, b := range x.data[:cap(x.data)] {
		spoil(b, 77)
	}
	spoil(x.l, piece(7, 7, 7))
	spoil(x.ids, 77)
	spoil(x.versions, 77)
	spoil(x.data, nil)
}

// R3: Entries changes neither its arguments nor what is behind them, and its results share no memory with them, or with those of another call.
func TestEntriesShareNoMemory(t *testing.T) {
	for _, given := range []arguments{
		{}, digits(), digits(piece(0, 0, 9)), digits(piece(2, 0, 0)), digits(piece(0, 0, 9), piece(1, 0, 3), piece(2, 0, 0)), digits(piece(1, 0, 2), piece(0, 3, 3), piece(0, 3, 3)),
		files([]int{4096}, piece(0, 0, 4096)), files(of(64, 5), each(0, 63, 5)...), digits(nothing(64)...),
	} {
		want := entriesOf(given)
		x := roomyArguments(given)
		before := wholeOf(x)
		list, payload, _ := packer.Entries(x.l, x.ids, x.versions, x.data)
		otherList, otherPayload, _ := packer.Entries(x.l, x.ids, x.versions, x.data)
		spoil(otherList, api.Entry{File: 77})
		spoil(otherPayload, 77)
		if !wholeOf(x).equal(before) {
			t.Errorf("the memory of %s has become %s", short(before), short(wholeOf(x)))
		}
		spoilArguments(x)
		if !slices.Equal(list, want.entries) || !bytes.Equal(payload, want.payload) {
			t.Errorf("Entries of %s: the results share memory", short(given))
		}
		_, _ = append(list, api.Entry{File: 66}), append(payload, 66)
		spoil(list, api.Entry{File: 66})
		if !bytes.Equal(payload, want.payload) {
			t.Errorf("Entries of %s: the two results share memory", short(given))
		}
	}
}

// R3: what is behind the end of a file is not a part of it, and what is behind the end of a list is not in it.
func TestMemoryBehindLists(t *testing.T) {
	x := roomyArguments(digits(piece(0, 0, 9)))
	accept(t, "with more behind", x, "123456789")
	for _, p := range []packer.Piece{piece(0, 0, 10), piece(0, 10, 0), piece(0, 9, 1), piece(2, 0, 1), piece(3, 0, 0)} {
		x.l[0] = p
		reject(t, "in the memory behind", x, api.ErrRange)
	}
	x = roomyArguments(digits(piece(0, 0, 1)))
	x.data = x.data[:2]
	reject(t, "a file fewer", x, api.ErrInvalid)
	x.ids, x.versions = x.ids[:2], x.versions[:2]
	accept(t, "everything fewer", x, "1")
	x.l[0].File = 2
	reject(t, "the file behind", x, api.ErrRange)
}

// R3: nil and empty lists are equal.
func TestNilAndEmpty(t *testing.T) {
	for _, sizes := range [][]int{nil, {}, make([]int, 0, 10)} {
		all(t, sizes, 64)
		all(t, sizes, 0)
	}
	for _, l := range [][]packer.Piece{nil, {}, make([]packer.Piece, 0, 10)} {
		for _, ids := range [][]int{nil, {}, make([]int, 0, 10)} {
			for _, data := range [][][]byte{nil, {}, make([][]byte, 0, 10)} {
				accept(t, "nothing", arguments{l: l, ids: ids, versions: []int{}, data: data}, "")
				accept(t, "nothing", arguments{l: l, ids: ids, data: data}, "")
			}
		}
	}
	for _, b := range [][]byte{nil, {}, make([]byte, 0, 10)} {
		x := arguments{nothing(2), []int{4}, []int{5}, [][]byte{b}}
		got := accept(t, "a file without bytes", x, "")
		if !slices.Equal(got.entries, []api.Entry{{File: 4, Version: 5}, {File: 4, Version: 5}}) {
			t.Errorf("%+v", got.entries)
		}
	}
}
