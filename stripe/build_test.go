package stripe_test

import (
	"fmt"
	"math"
	"slices"
	"testing"

	"tapearchive/api"
	"tapearchive/container"
	"tapearchive/stripe"
)

// makes checks that Build makes a set, whose row and headers are valid.
func makes(t *testing.T, what string, x parts) built {
	t.Helper()
	b := build(t, what, x)
	n := x.set.Data + x.set.Parity
	if b.e != api.OK || len(b.headers) != n || len(b.payloads) != n || len(b.row.Members) != n || !stripe.Valid(b.row) {
		t.Errorf("%s: %s", what, b)
		return b
	}
	for i, h := range b.headers {
		if !container.Valid(h) || h.ID != b.row.Members[i] || h.Size != len(b.payloads[i]) || h.Index != i || h.Set != x.set.ID {
			t.Errorf("%s: header %d: %+v", what, i, h)
		}
	}
	return b
}

// fails checks that Build returns an error, and zero values with it.
func fails(t *testing.T, what string, x parts, want api.Errno) {
	t.Helper()
	if b := build(t, what, x); b.e != want || len(b.headers) != 0 || len(b.payloads) != 0 || !sameRow(b.row, api.Set{}) {
		t.Errorf("%s: %s, want the error %d", what, b, want)
	}
}

// after returns arguments after a change.
func (x parts) after(change func(x *parts)) parts {
	x = x.cloned()
	change(&x)
	return x
}

// P17.2: all numbers of data and parity members, with payloads of equal and of different lengths
func TestBuildOfAllPlans(t *testing.T) {
	plans(func(data, parity int) {
		for _, length := range []int{0, 1, 70} {
			equal, different := slices.Repeat([]int{length}, data), make([]int, data)
			for i := range different {
				different[i] = (i*7 + 3) % (length + 1)
			}
			makes(t, "equal lengths", sample(parity, equal...))
			makes(t, "different lengths", sample(parity, different...))
			equal[data-1]++
			makes(t, "the last one is longer", sample(parity, equal...))
			slices.Reverse(equal)
			makes(t, "the first one is longer", sample(parity, equal...))
		}
	})
}

// P17.2: many sizes, also with payloads without bytes: one, some and all of them
func TestBuildOfManySizes(t *testing.T) {
	for _, sizes := range manySizes() {
		for _, parity := range []int{0, 1, 2, 16 - len(sizes)} {
			if len(sizes)+parity <= 16 {
				makes(t, "many sizes", sample(parity, sizes...))
			}
		}
	}
	for n := 1; n <= 8; n++ {
		for _, none := range choices(n) {
			sizes := slices.Repeat([]int{5}, n)
			for i, is := range none {
				if is {
					sizes[i] = 0
				}
			}
			makes(t, "some without bytes", sample(2, sizes...))
		}
	}
}

// P17.2: the greatest payloads of containers
func TestBuildOfGreatPayloads(t *testing.T) {
	for _, sizes := range [][]int{{65536}, {65535, 65536}, {65537, 1}, {1 << 18}, {1<<18 - 1, 0, 1 << 18}} {
		b := makes(t, "great payloads", sample(2, sizes...))
		if len(b.payloads) > len(sizes) && len(b.payloads[len(sizes)]) != slices.Max(sizes) {
			t.Errorf("%v: the parity has %d bytes", sizes, len(b.payloads[len(sizes)]))
		}
	}
	h := header(3, 1<<18)
	h.Entries = append(h.Entries[:63], api.Entry{File: 1, Version: 1, Length: 4097})
	h.Size++
	x := sample(1, 1<<18)
	x.headers[0], x.payloads[0] = h, append(x.payloads[0], 1)
	fails(t, "a payload that is too great", x, api.ErrInvalid)
}

// P17.2: what the headers contain, field by field
func TestFieldsOfHeaders(t *testing.T) {
	for _, commit := range []int{0, 1, 1 << 50} {
		for version := 1; version <= 2; version++ {
			x := sample(2, 4, 9, 6)
			x.set.ID, x.headers[0].Version, x.headers[0].Commit = 77, version, commit
			x.headers[1].Version, x.headers[2].Version = 3-version, version
			given := x.cloned().headers
			b := makes(t, "fields", x)
			for i, h := range b.headers[:3] {
				want := given[i]
				want.Set, want.Index, want.Data, want.Parity = 77, i, 3, 2
				if !sameHeaders([]api.Header{h}, []api.Header{want}) || h.Sum == 0 {
					t.Errorf("header %d: %+v, want %+v", i, h, want)
				}
			}
			for i, h := range b.headers[3:] {
				want := api.Header{ID: 501 + i, Kind: api.ContainerParity, Version: version, Set: 77, Index: 3 + i, Data: 3, Parity: 2, Commit: commit, Size: 9}
				if !sameHeaders([]api.Header{h}, []api.Header{want}) {
					t.Errorf("parity header %d: %+v, want %+v", i, h, want)
				}
			}
		}
	}
}

// P17.2: the checksums of headers and entries play no part, and neither do the files and versions of the entries.
func TestSumsPlayNoPart(t *testing.T) {
	for _, sum := range []uint32{0, 1, math.MaxUint32} {
		x := sample(1, 4, 4)
		x.headers[0].Sum, x.headers[1].Sum, x.headers[0].Entries[0].Sum = sum, ^sum, sum
		x.headers[1].Entries[0] = x.headers[0].Entries[0]
		if b := makes(t, "sums", x); b.headers[0].Sum != sum || b.headers[1].Sum != ^sum || b.headers[0].Entries[0].Sum != sum || b.headers[2].Sum != 0 {
			t.Errorf("%s", b)
		}
	}
}

// P17.2: Members of the set are ignored, whatever they are.
func TestMembersAreIgnored(t *testing.T) {
	want := buildOf(sample(1, 3, 2))
	for _, list := range [][]int{nil, {}, {1}, {1, 2, 3}, {100, 489, 501}, {-1, 0, 0}, {501, 501, 501}, members(16), make([]int, 1000)} {
		x := sample(1, 3, 2)
		x.set.Members = list
		if b := makes(t, "members", x); !b.same(want) {
			t.Errorf("with the members %v: %s", list, b)
		}
	}
}

// P17.2: sets whose numbers are not in their ranges
func TestRangesOfSets(t *testing.T) {
	for _, n := range ints() {
		x := sample(1, 3, 2)
		x.set.ID = n
		if isNumber(n) {
			makes(t, "an ID", x)
		} else {
			fails(t, "a bad ID", x, api.ErrRange)
		}
		x = sample(0, 3, 2)
		x.set.Data = n
		switch {
		case n == 2:
			makes(t, "data", x)
		case n >= 1 && n <= 16:
			fails(t, "more or fewer data", x, api.ErrInvalid)
		default:
			fails(t, "bad data", x, api.ErrRange)
		}
		x = sample(n, 3, 2)
		if n >= 0 && n <= 14 {
			makes(t, "parity", x)
		} else {
			fails(t, "bad parity", x, api.ErrRange)
		}
	}
	for data := 1; data <= 18; data++ {
		x := sample(17-data, slices.Repeat([]int{2}, data)...)
		fails(t, "one member too many", x, api.ErrRange)
		if data <= 16 {
			x.set.Parity--
			makes(t, "as many members as possible", x)
		}
	}
}

// P17.2: every two numbers of data and parity members
func TestSumsOfPlans(t *testing.T) {
	for _, data := range ints() {
		for _, parity := range ints() {
			for n := range 3 {
				x := sample(parity, slices.Repeat([]int{2}, n)...)
				x.set.Data = data
				b := build(t, "any plan", x)
				if (b.e == api.ErrRange) != (data < 1 || parity < 0 || data > 16 || parity > 16 || data+parity > 16) {
					t.Errorf("%d and %d: error %d", data, parity, b.e)
				}
			}
		}
	}
}

// P17.2: headers and payloads of other numbers than Data
func TestNumbersOfContainers(t *testing.T) {
	for data := 1; data <= 4; data++ {
		for headers := range 20 {
			for payloads := range 20 {
				x := sample(1, slices.Repeat([]int{3}, 20)...)
				x.set.Data, x.headers, x.payloads = data, x.headers[:headers], x.payloads[:payloads]
				if headers == data && payloads == data {
					makes(t, "as many", x)
				} else {
					fails(t, "more or fewer", x, api.ErrInvalid)
				}
			}
		}
	}
}

// badHeader is a change of a header with Size 3 by which it may not become a member.
type badHeader struct {
	name  string
	valid bool // it is a valid header all the same
	put   func(h *api.Header)
}

// badHeaders are all such changes.
func badHeaders() []badHeader {
	var list []badHeader
	put := func(name string, valid bool, change func(h *api.Header)) {
		list = append(list, badHeader{name, valid, change})
	}
	for _, n := range []int{math.MinInt, -1, 0, 1<<50 + 1, math.MaxInt} {
		put("a bad ID", false, func(h *api.Header) { h.ID = n })
		put("a bad file", false, func(h *api.Header) { h.Entries[0].File = n })
		put("a bad version of a file", false, func(h *api.Header) { h.Entries[0].Version = n })
	}
	for _, n := range []int{math.MinInt, -1, 0, 3, math.MaxInt} {
		put("a bad version", false, func(h *api.Header) { h.Version = n })
	}
	for _, n := range []int{math.MinInt, -1, 1<<50 + 1, math.MaxInt} {
		put("a bad commit", false, func(h *api.Header) { h.Commit = n })
		put("a bad Set", false, func(h *api.Header) { h.Set = n })
		put("a bad Set with a place", false, func(h *api.Header) { h.Set, h.Data = n, 1 })
		put("a bad offset", false, func(h *api.Header) { h.Entries[0].Offset = n })
	}
	for _, n := range []int{math.MinInt, -1, 3, 4, math.MaxInt} {
		put("a bad kind", false, func(h *api.Header) { h.Kind, h.Entries = n, nil })
	}
	for _, n := range []int{-1, 1, 2} {
		put("an Index", false, func(h *api.Header) { h.Index = n })
		put("Data", false, func(h *api.Header) { h.Data = n })
		put("Parity", false, func(h *api.Header) { h.Parity = n })
	}
	put("parity without a set", false, func(h *api.Header) { h.Kind, h.Entries = api.ContainerParity, nil })
	put("parity with entries", false, func(h *api.Header) { h.Kind, h.Set, h.Index, h.Data, h.Parity = api.ContainerParity, 9, 2, 2, 1 })
	put("parity", true, func(h *api.Header) {
		h.Kind, h.Entries, h.Set, h.Index, h.Data, h.Parity = api.ContainerParity, nil, 9, 2, 2, 1
	})
	put("a log", true, func(h *api.Header) { h.Kind, h.Entries, h.ID = api.ContainerLog, nil, 0 })
	put("a log with an ID", false, func(h *api.Header) { h.Kind, h.Entries = api.ContainerLog, nil })
	put("a log with entries", false, func(h *api.Header) { h.Kind, h.ID = api.ContainerLog, 0 })
	put("data of another set", true, func(h *api.Header) { h.Set, h.Data = 8, 1 })
	put("data of this set", true, func(h *api.Header) { h.Set, h.Index, h.Data, h.Parity = 9, 1, 3, 1 })
	put("data of the last set", true, func(h *api.Header) { h.Set, h.Data = 1<<50, 16 })
	put("no entries", false, func(h *api.Header) { h.Entries = nil })
	put("65 entries", false, func(h *api.Header) {
		h.Entries = append(h.Entries, slices.Repeat([]api.Entry{{File: 1, Version: 1}}, 64)...)
	})
	put("a Size that is one less", true, func(h *api.Header) { h.Size, h.Entries[0].Length = 2, 2 })
	put("a Size that is one more", true, func(h *api.Header) { h.Size, h.Entries[0].Length = 4, 4 })
	put("Size 0", true, func(h *api.Header) { h.Size, h.Entries = 0, nil })
	put("a Size that is one less than that of the entries", false, func(h *api.Header) { h.Size = 2 })
	put("a Size that is one more than that of the entries", false, func(h *api.Header) { h.Size = 4 })
	put("entries that are one less", false, func(h *api.Header) { h.Entries[0].Length = 2 })
	put("a negative Size", false, func(h *api.Header) { h.Size = -3 })
	return list
}

// P17.2: headers that may not become members, at each place
func TestBadHeaders(t *testing.T) {
	for _, bad := range badHeaders() {
		for data := 1; data <= 3; data++ {
			for at := range data {
				for parity := range 3 {
					x := sample(parity, slices.Repeat([]int{3}, data)...).after(func(x *parts) { bad.put(&x.headers[at]) })
					if container.Valid(x.headers[at]) != bad.valid {
						t.Errorf("%s: %+v: valid is %t", bad.name, x.headers[at], !bad.valid)
					}
					fails(t, bad.name, x, api.ErrInvalid)
				}
			}
		}
	}
}

// P17.2: payloads that do not have the Size of their header, at each place, also where they have that of another one
func TestSizesOfPayloads(t *testing.T) {
	for data := 1; data <= 3; data++ {
		for at := range data {
			for n := range 8 {
				x := sample(1, slices.Repeat([]int{3}, data)...)
				x.payloads[at] = mixed(n, 1)
				if n == 3 {
					makes(t, "the size", x)
				} else {
					fails(t, "another size", x, api.ErrInvalid)
				}
			}
		}
	}
	x := sample(1, 3, 4)
	x.payloads[0], x.payloads[1] = x.payloads[1], x.payloads[0]
	fails(t, "exchanged payloads", x, api.ErrInvalid)
	x.headers[0], x.headers[1] = x.headers[1], x.headers[0]
	makes(t, "exchanged headers, too", x)
}

// P17.2: each next, and the greatest one for each number of parity members
func TestNext(t *testing.T) {
	for _, parity := range []int{0, 1, 2, 3, 13, 14} {
		last := 1<<50 + 1 - parity
		for _, next := range append(ints(), last-1, last, last+1, last+2) {
			x := sample(parity, 3, 2)
			x.next = next
			if next >= 1 && next <= last {
				if b := makes(t, "next", x); parity > 0 && (b.headers[2].ID != next || b.row.Members[1+parity] != next+parity-1) {
					t.Errorf("next %d: %s", next, b)
				}
			} else {
				fails(t, "a bad next", x, api.ErrRange)
			}
		}
	}
}

// P17.2: numbers of headers that are equal, in pairs and all of them
func TestEqualNumbers(t *testing.T) {
	for data := 2; data <= 16; data++ {
		x := sample(min(1, 16-data), slices.Repeat([]int{2}, data)...)
		for i := range data {
			for j := range i {
				fails(t, "equal numbers", x.after(func(x *parts) { x.headers[i].ID = x.headers[j].ID }), api.ErrExists)
			}
		}
		for i := range x.headers {
			x.headers[i].ID = 5
		}
		fails(t, "all numbers equal", x, api.ErrExists)
	}
}

// P17.2: numbers of headers that are one less than next, the first, a middle and the last one from there on, and one more than that
func TestNumbersFromNextOn(t *testing.T) {
	for data := 1; data <= 4; data++ {
		for at := range data {
			for parity := range 12 {
				for number := 499; number <= 513; number++ {
					x := sample(parity, slices.Repeat([]int{2}, data)...)
					x.headers[at].ID = number
					what := fmt.Sprintf("the number %d with %d from 501 on", number, parity)
					if number >= 501 && number < 501+parity {
						fails(t, what, x, api.ErrExists)
					} else {
						makes(t, what, x)
					}
				}
			}
		}
	}
}

// P17.2: the number of the set may be that of a member.
func TestNumberOfSetIsThatOfMember(t *testing.T) {
	for _, id := range []int{100, 489, 501, 502} {
		x := sample(2, 3, 2)
		x.set.ID = id
		makes(t, "the number of a member", x)
	}
}

// P17.2: random arguments, of which each part is seldom not permitted
func TestBuildOfRandomParts(t *testing.T) {
	var r random
	list, bad := ints(), badHeaders()
	n := map[api.Errno]int{}
	for range 5000 {
		sizes := make([]int, 1+r.below(6))
		for i := range sizes {
			sizes[i] = r.below(1 << r.below(8))
		}
		x := sample(r.below(5), sizes...)
		for range r.below(3) {
			at := r.below(len(x.headers))
			switch r.below(9) {
			case 0:
				x.set.ID = list[r.below(len(list))]
			case 1:
				x.set.Data = list[r.below(len(list))]
			case 2:
				x.set.Parity = list[r.below(len(list))]
			case 3:
				if x.headers[at].Size == 3 && len(x.headers[at].Entries) == 1 {
					bad[r.below(len(bad))].put(&x.headers[at])
				}
			case 4:
				x.headers[at].Size += r.below(3) - 1
			case 5:
				x.payloads[at] = mixed(r.below(9), 3)
			case 6:
				x.next = list[r.below(len(list))]
			case 7:
				x.headers[at].ID = x.headers[r.below(len(x.headers))].ID
			case 8:
				x.next = x.headers[at].ID - r.below(4)
			}
		}
		n[build(t, "random parts", x).e]++
	}
	for _, e := range []api.Errno{api.OK, api.ErrRange, api.ErrInvalid, api.ErrExists} {
		if n[e] < 100 {
			t.Errorf("the error %d: %d times", e, n[e])
		}
	}
}
