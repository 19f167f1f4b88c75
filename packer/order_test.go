package packer_test

import (
	"math"
	"strings"
	"testing"

	"tapearchive/api"
	"tapearchive/packer"
)

// fault makes a function return an error, by a change of its arguments. Of those of one kind, other than "", only one is put.
type fault[T any] struct {
	name, kind string
	e          api.Errno
	put        func(x *T)
}

// together calls a function with each set of faults, of which there is one of each kind, and the arguments with them.
func together[T any](all []fault[T], base func() T, call func(names string, x T, want api.Errno)) {
	for set := range 1 << len(all) {
		x, want := base(), api.OK
		var names []string
		kinds := map[string]bool{"": false}
		for i, f := range all {
			if set>>i&1 == 0 {
				continue
			}
			if kinds[f.kind] {
				want = -1
				break
			}
			kinds[f.kind] = f.kind != ""
			names = append(names, f.name)
			if want == api.OK {
				want = f.e
			}
		}
		if want < 0 {
			continue
		}
		// What adds elements at the end is put last: the faults of the others stay where they are.
		for i := len(all) - 1; i >= 0; i-- {
			if set>>i&1 == 1 {
				all[i].put(&x)
			}
		}
		call(strings.Join(names, ", "), x, want)
	}
}

// sized are the arguments of the functions that take sizes.
type sized struct {
	sizes    []int
	capacity int
}

// sizeFaults are those of the functions that take sizes, in the order of their errors.
func sizeFaults() []fault[sized] {
	size := func(name string, at, n int, e api.Errno) fault[sized] {
		return fault[sized]{name: name, e: e, put: func(x *sized) { x.sizes[at] = n }}
	}
	capacity := func(name string, n int) fault[sized] {
		return fault[sized]{name: name, kind: "capacity", e: api.ErrRange, put: func(x *sized) { x.capacity = n }}
	}
	return []fault[sized]{
		{name: "one file too many", kind: "number", e: api.ErrTooLong, put: func(x *sized) { x.sizes = append(x.sizes, of(513-len(x.sizes), 3)...) }},
		{name: "far too many", kind: "number", e: api.ErrTooLong, put: func(x *sized) { x.sizes = append(x.sizes, of(5000, -1)...) }},
		size("a size of -1", 0, -1, api.ErrRange),
		size("the least size", 1, math.MinInt, api.ErrRange),
		size("a size that is too great", 2, 4097, api.ErrRange),
		size("the greatest size", 3, math.MaxInt, api.ErrRange),
		capacity("the capacity 0", 0),
		capacity("a negative capacity", -64),
		capacity("a capacity that is too great", 1<<50+1),
		size("a file that is greater than the capacity", 4, 65, api.ErrFull),
		size("another one", 5, 4096, api.ErrFull),
	}
}

// P16.1 to P16.4: all errors together, in every combination
func TestOrderOfErrors(t *testing.T) {
	base := func() sized { return sized{[]int{10, 20, 30, 40, 50, 60, 64}, 64} }
	together(sizeFaults(), base, func(names string, x sized, want api.Errno) {
		for _, p := range packings() {
			if got := p.pack(t, x.sizes, x.capacity); got.e != want || want != api.OK && len(got.l) != 0 {
				t.Errorf("%s: %s: %s, want the error %d", names, p.name, short(got), want)
			}
		}
		if want == api.ErrFull {
			want = api.OK
		}
		if got := fill(t, x.sizes, x.capacity); got.e != want || want != api.OK && len(got.l) != 0 {
			t.Errorf("%s: Fill: %s, want the error %d", names, short(got), want)
		}
		if n := least(t, x.sizes, x.capacity); (n == 0) != (want != api.OK) {
			t.Errorf("%s: Least: %d", names, n)
		}
	})
}

// pieceFaults are those of Entries, in the order of their errors.
func pieceFaults() []fault[arguments] {
	number := func(name string, e api.Errno, put func(x *arguments)) fault[arguments] {
		return fault[arguments]{name: name, e: e, put: put}
	}
	shape := func(name string, put func(x *arguments)) fault[arguments] {
		return fault[arguments]{name: name, kind: "lengths", e: api.ErrInvalid, put: put}
	}
	at := func(name string, place int, p packer.Piece) fault[arguments] {
		return fault[arguments]{name: name, e: api.ErrRange, put: func(x *arguments) { x.l[place] = p }}
	}
	return []fault[arguments]{
		shape("a number is missing", func(x *arguments) { x.ids = x.ids[:2] }),
		shape("a number is too many", func(x *arguments) { x.ids = append(x.ids, 5) }),
		shape("a version is missing", func(x *arguments) { x.versions = x.versions[:2] }),
		shape("a version is too many", func(x *arguments) { x.versions = append(x.versions, 5) }),
		shape("a file is missing", func(x *arguments) { x.data = x.data[:2] }),
		shape("a file is too many", func(x *arguments) { x.data = append(x.data, nil) }),
		number("a number of 0", api.ErrInvalid, func(x *arguments) { x.ids[0] = 0 }),
		number("a number that is too great", api.ErrInvalid, func(x *arguments) { x.ids[1] = 1<<50 + 1 }),
		number("a version of 0", api.ErrInvalid, func(x *arguments) { x.versions[1] = 0 }),
		number("a version that is too great", api.ErrInvalid, func(x *arguments) { x.versions[0] = 1<<50 + 1 }),
		number("too many pieces", api.ErrTooLong, func(x *arguments) { x.l = append(x.l, nothing(65-len(x.l))...) }),
		at("a file of -1", 0, piece(-1, 0, 0)),
		at("a file beyond the last one", 1, piece(3, 0, 0)),
		at("a negative offset", 2, piece(0, -1, 1)),
		at("a negative length", 3, piece(0, 1, -1)),
		at("a piece beyond the end", 4, piece(0, 3, 7)),
		at("a sum that is too great", 5, piece(0, 9, math.MaxInt)),
	}
}

// P16.5: all errors together, in every combination
func TestOrderOfErrorsOfEntries(t *testing.T) {
	base := func() arguments { return digits(nothing(7)...) }
	together(pieceFaults(), base, func(names string, x arguments, want api.Errno) {
		if want == api.OK {
			accept(t, "no fault", x, "")
			return
		}
		reject(t, names, x, want)
	})
}

// P16.2, P16.3: a size that is too great for the capacity and for a file is ErrRange; one that is too great for the capacity alone is ErrFull.
func TestTooGreatForBoth(t *testing.T) {
	for _, p := range packings() {
		for size, want := range map[int]api.Errno{4096: api.ErrFull, 4097: api.ErrRange, math.MaxInt: api.ErrRange} {
			for _, sizes := range [][]int{{size}, {size, 1}, {1, size}, {65, size}, {size, 65}} {
				if got := p.pack(t, sizes, 64); got.e != want {
					t.Errorf("%s of %v: error %d, want %d", p.name, sizes, got.e, want)
				}
			}
		}
	}
}
