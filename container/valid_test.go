package container_test

import (
	"math"
	"slices"
	"testing"

	"tapearchive/api"
	"tapearchive/container"
)

// P15.1: headers that are valid, and those that are not by one condition alone
func TestKnownHeaders(t *testing.T) {
	for _, h := range bases() {
		if !checkValid(t, h) {
			t.Errorf("%+v is not valid", h)
		}
	}
	for _, c := range invalid() {
		if checkValid(t, c.h) {
			t.Errorf("%s: %+v is valid", c.name, c.h)
		}
	}
	for _, c := range containers() {
		if !checkValid(t, c.h) {
			t.Errorf("%+v is not valid", c.h)
		}
	}
	checkValid(t, api.Header{})
}

// P15.1: the least and the greatest permitted value of every field, and one beyond each
func TestBounds(t *testing.T) {
	data, _ := chapter(1)
	inSet := changed(data, func(h *api.Header) { h.Set, h.Index, h.Data, h.Parity = 3, 1, 4, 3 })
	parity, _ := withoutParts(api.ContainerParity, 1, 9)
	parity = changed(parity, func(h *api.Header) { h.Index, h.Data, h.Parity = 4, 3, 4 })
	commit, _ := withoutParts(api.ContainerLog, 1, 9)
	for _, c := range []struct {
		h           api.Header
		name        string
		least, most int
	}{
		{data, "ID", 1, 1 << 50}, {parity, "ID", 1, 1 << 50}, {commit, "ID", 0, 0}, {data, "Kind", 0, 0}, {inSet, "Kind", 0, 0}, {parity, "Kind", 1, 1}, {commit, "Kind", 2, 2},
		{data, "Version", 1, 2}, {parity, "Version", 1, 2}, {commit, "Version", 1, 2}, {data, "Commit", 0, 1 << 50}, {parity, "Commit", 0, 1 << 50}, {commit, "Commit", 0, 1 << 50},
		{data, "Size", 3, 3}, {parity, "Size", 0, 1 << 18}, {commit, "Size", 0, 1 << 18}, {data, "Set", 0, 0}, {inSet, "Set", 1, 1 << 50}, {parity, "Set", 1, 1 << 50}, {commit, "Set", 0, 0},
		{data, "Index", 0, 0}, {inSet, "Index", 0, 3}, {parity, "Index", 3, 6}, {commit, "Index", 0, 0}, {data, "Data", 0, 0}, {inSet, "Data", 2, 13}, {parity, "Data", 1, 4}, {commit, "Data", 0, 0},
		{data, "Parity", 0, 0}, {inSet, "Parity", 0, 12}, {parity, "Parity", 2, 13}, {commit, "Parity", 0, 0},
		{data, "File", 1, 1 << 50}, {data, "Version of an entry", 1, 1 << 50}, {data, "Offset", 0, 4093}, {data, "Length", 3, 3},
	} {
		i := slices.IndexFunc(fieldsOf(c.h), func(f field) bool { return f.name == c.name })
		f := fieldsOf(c.h)[i]
		for _, n := range append(ints(), c.least-1, c.least, c.most, c.most+1) {
			h := with(c.h, f, n)
			if got := checkValid(t, h); got != (n >= c.least && n <= c.most) {
				t.Errorf("%+v: the %s %d: %t", c.h, c.name, n, got)
			}
		}
	}
}

// P15.1: every value in each field, and every two values in two fields
func TestFieldsTogether(t *testing.T) {
	for _, h := range bases() {
		all := fieldsOf(h)
		for i, f := range all {
			for _, n := range ints() {
				once := with(h, f, n)
				checkValid(t, once)
				for _, g := range all[i+1:] {
					for _, m := range ints() {
						if twice := with(once, g, m); container.Valid(twice) != validOf(twice) {
							t.Errorf("Valid of %+v: %t", twice, !validOf(twice))
						}
					}
				}
			}
		}
	}
}

// P15.1: all places in small sets, and sets of nearly too many members
func TestPlaces(t *testing.T) {
	for _, kind := range []int{api.ContainerData, api.ContainerParity, api.ContainerLog} {
		for data := -1; data <= 18; data++ {
			for parity := -1; parity <= 18; parity++ {
				for index := -1; index <= data+parity+1; index++ {
					for _, set := range []int{-1, 0, 1, 1 << 50} {
						h := api.Header{Kind: kind, Version: 1, Set: set, Index: index, Data: data, Parity: parity}
						if kind != api.ContainerLog {
							h.ID = 1
						}
						if container.Valid(h) != validOf(h) {
							t.Errorf("Valid of %+v: %t", h, !validOf(h))
						}
					}
				}
			}
		}
	}
}

// P15.1: sums that exceed the range of int
func TestGreatSums(t *testing.T) {
	for _, pair := range [][2]int{{math.MaxInt, 1}, {math.MaxInt, math.MaxInt}, {1, math.MaxInt}, {math.MinInt, math.MinInt}, {math.MinInt, -1}, {math.MaxInt, math.MinInt}, {math.MaxInt - 3, 16}, {1 << 62, 1 << 62}} {
		for _, kind := range []int{api.ContainerData, api.ContainerParity} {
			h := api.Header{ID: 1, Kind: kind, Version: 1, Set: 1, Data: pair[0], Parity: pair[1]}
			for _, index := range append(ints(), pair[0]-1, pair[0], pair[0]+pair[1]-1) {
				if h.Index = index; checkValid(t, h) {
					t.Errorf("%+v is valid", h)
				}
			}
		}
		h := api.Header{ID: 1, Version: 1, Entries: []api.Entry{{File: 1, Version: 1, Offset: pair[0], Length: pair[1]}}}
		for _, size := range append(ints(), pair[1]) {
			if h.Size = size; checkValid(t, h) {
				t.Errorf("%+v is valid", h)
			}
		}
	}
	x := api.Entry{File: 1, Version: 1, Length: 1 << 58}
	h := api.Header{ID: 1, Version: 1, Entries: slices.Repeat([]api.Entry{x}, 64)}
	if checkValid(t, h) {
		t.Errorf("%+v is valid", h)
	}
}

// P15.1: numbers of entries, and one bad entry among them at each place
func TestEntries(t *testing.T) {
	for _, n := range []int{0, 1, 2, 3, 31, 63, 64, 65, 66, 128, 1000} {
		for _, length := range []int{0, 1, 100} {
			h, _ := parts(1, slices.Repeat([]int{length}, n)...)
			if got := checkValid(t, h); got != (n <= 64) {
				t.Errorf("%d entries of %d bytes: %t", n, length, got)
			}
			for i := range h.Entries {
				for _, f := range entryFields(i) {
					for _, m := range []int{-1, 5000} {
						if bad := with(h, f, m); container.Valid(bad) != validOf(bad) {
							t.Errorf("%d entries of %d bytes: %d in the %s of entry %d: %t", n, length, m, f.name, i, !validOf(bad))
						}
					}
				}
			}
			for _, kind := range []int{api.ContainerParity, api.ContainerLog} {
				other, _ := withoutParts(kind, 1, n*length)
				other.Entries = h.Entries
				if got := checkValid(t, other); got != (n == 0) {
					t.Errorf("kind %d with %d entries: %t", kind, n, got)
				}
			}
		}
	}
}

// P15.1: the Sums, the files and the order of entries play no part, and neither does the Sum of the header.
func TestSumsPlayNoPart(t *testing.T) {
	for _, sum := range []uint32{0, 1, 1 << 31, math.MaxUint32} {
		h, _ := parts(2, 5, 6, 7)
		h.Sum, h.Entries[0].Sum, h.Entries[2].Sum = sum, sum, ^sum
		h.Entries[1] = h.Entries[0]
		h.Size = 17
		if !checkValid(t, h) {
			t.Errorf("%+v is not valid", h)
		}
	}
}

// P15.1: random headers
func TestRandomHeaders(t *testing.T) {
	var r random
	valid := 0
	for range 20000 {
		if checkValid(t, randomHeader(&r, 25)) {
			valid++
		}
	}
	if valid < 3000 || valid > 17000 {
		t.Errorf("%d of 20000 headers were valid", valid)
	}
}

// randomHeader returns a header, of whose fields each one is seldom not permitted.
func randomHeader(r *random, seldom int) api.Header {
	h := api.Header{Version: 1 + r.below(2), Commit: randomNumber(r)}
	h.Kind = r.below(3)
	if h.Kind != api.ContainerLog {
		h.ID = 1 + r.below(1<<r.below(50))
	}
	if h.Kind == api.ContainerParity || h.Kind == api.ContainerData && r.below(2) == 0 {
		h.Set = 1 + r.below(1<<r.below(50))
		h.Data = 1 + r.below(15)
		h.Parity = 1 + r.below(16-h.Data)
		h.Index = r.below(h.Data)
		if h.Kind == api.ContainerParity {
			h.Index = h.Data + r.below(h.Parity)
		}
	}
	h.Size, h.Sum = r.below(1<<r.below(19)), uint32(r.below(1<<32))
	if h.Kind == api.ContainerData {
		h.Size = 0
		for range r.below(1 << r.below(7)) {
			x := api.Entry{File: 1 + r.below(1<<r.below(50)), Version: 1 + r.below(1<<r.below(50)), Length: r.below(1 << r.below(8)), Sum: uint32(r.below(1 << 32))}
			x.Offset = r.below(4097 - x.Length)
			h.Entries = append(h.Entries, x)
			h.Size += x.Length
		}
	}
	for _, f := range fieldsOf(h) {
		if r.below(seldom) == 0 {
			h = with(h, f, ints()[r.below(len(ints()))])
		}
	}
	return h
}

// randomNumber returns a number from 0 to MaxNumber.
func randomNumber(r *random) int { return r.below(1 << r.below(51)) }
