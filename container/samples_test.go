package container_test

import (
	"math"
	"slices"

	"tapearchive/api"
)

// The headers, payloads and blocks that the tests try.

// mixed returns n bytes, which depend on their places.
func mixed(n int) []byte {
	r := random(n)
	b := make([]byte, n)
	for i := range b {
		b[i] = byte(r.below(256))
	}
	return b
}

// mark returns a mark.
func mark() api.Block { return api.Block{Mark: true} }

// data returns a block with this text.
func data(s string) api.Block { return api.Block{Data: []byte(s)} }

// summed returns a header with the Size and the Sum of a payload, and the Sums of its entries.
func summed(h api.Header, payload []byte) api.Header {
	h = clonedHeader(h)
	h.Size, h.Sum = len(payload), crc(payload)
	for i := range h.Entries {
		h.Entries[i].Sum = crc(partOf(h, i, payload))
	}
	return h
}

// parts returns a data header with entries of these lengths, and its payload.
func parts(version int, lengths ...int) (api.Header, []byte) {
	h := api.Header{ID: 7, Version: version}
	size := 0
	for i, n := range lengths {
		h.Entries = append(h.Entries, api.Entry{File: i + 1, Version: 1, Length: n})
		size += n
	}
	return summed(h, mixed(size)), mixed(size)
}

// withoutParts returns a parity or a log header, and its payload of n bytes.
func withoutParts(kind, version, n int) (api.Header, []byte) {
	h := api.Header{Kind: kind, Version: version}
	if kind == api.ContainerParity {
		h.ID, h.Set, h.Index, h.Data, h.Parity = 9, 8, 2, 2, 1
	}
	return summed(h, mixed(n)), mixed(n)
}

// chapter returns the header and the payload of the chapter's example 1.
func chapter(version int) (api.Header, []byte) {
	payload := []byte("abc")
	return summed(api.Header{ID: 7, Version: version, Entries: []api.Entry{{File: 1, Version: 1, Length: 3}}}, payload), payload
}

// great returns the longest header that is valid, with as much payload as there may be.
func great(version int) (api.Header, []byte) {
	h := api.Header{ID: 1 << 50, Version: version, Set: 1 << 50, Index: 15, Data: 16, Commit: 1 << 50}
	for range 64 {
		h.Entries = append(h.Entries, api.Entry{File: 1 << 50, Version: 1 << 50, Length: 4096})
	}
	payload := mixed(64 * 4096)
	return summed(h, payload), payload
}

// bases are valid headers of all kinds.
func bases() []api.Header {
	one, _ := chapter(1)
	three, _ := parts(2, 60, 0, 61)
	longest, _ := great(1)
	parity, _ := withoutParts(api.ContainerParity, 2, 100)
	commit, _ := withoutParts(api.ContainerLog, 1, 9)
	first := one
	first.Set, first.Data, first.Parity = 3, 2, 1
	return []api.Header{
		one, three, longest, parity, commit, first,
		{ID: 1, Version: 1}, {Kind: api.ContainerLog, Version: 2}, {ID: 1, Version: 2, Set: 1, Data: 1},
		{ID: 1, Kind: api.ContainerParity, Version: 1, Set: 1, Index: 15, Data: 1, Parity: 15, Size: 4096 * 64, Sum: math.MaxUint32},
		{ID: 1, Kind: api.ContainerParity, Version: 1, Set: 1, Index: 15, Data: 15, Parity: 1},
	}
}

// field is a number of a header.
type field struct {
	name string
	of   func(h *api.Header) *int
}

// fields are the numbers of a header.
func fields() []field {
	return []field{
		{"ID", func(h *api.Header) *int { return &h.ID }},
		{"Kind", func(h *api.Header) *int { return &h.Kind }},
		{"Version", func(h *api.Header) *int { return &h.Version }},
		{"Set", func(h *api.Header) *int { return &h.Set }},
		{"Index", func(h *api.Header) *int { return &h.Index }},
		{"Data", func(h *api.Header) *int { return &h.Data }},
		{"Parity", func(h *api.Header) *int { return &h.Parity }},
		{"Commit", func(h *api.Header) *int { return &h.Commit }},
		{"Size", func(h *api.Header) *int { return &h.Size }},
	}
}

// entryFields are the numbers of an entry of a header.
func entryFields(at int) []field {
	return []field{
		{"File", func(h *api.Header) *int { return &h.Entries[at].File }},
		{"Version of an entry", func(h *api.Header) *int { return &h.Entries[at].Version }},
		{"Offset", func(h *api.Header) *int { return &h.Entries[at].Offset }},
		{"Length", func(h *api.Header) *int { return &h.Entries[at].Length }},
	}
}

// fieldsOf are the numbers of a header, and those of its first, a middle and its last entry.
func fieldsOf(h api.Header) []field {
	list := fields()
	n := len(h.Entries)
	if n == 0 {
		return list
	}
	for _, at := range slices.Compact([]int{0, n / 2, n - 1}) {
		list = append(list, entryFields(at)...)
	}
	return list
}

// ints are the least and the greatest int, the bounds of all fields, and those beyond each.
func ints() []int {
	return []int{
		math.MinInt, math.MinInt + 1, -1 << 50, -4096, -16, -2, -1, 0, 1, 2, 3, 4, 14, 15, 16, 17, 63, 64, 65, 4095, 4096, 4097,
		1<<18 - 1, 1 << 18, 1<<18 + 1, 1<<31 - 1, 1 << 31, 1<<32 - 1, 1 << 32, 1<<50 - 1, 1 << 50, 1<<50 + 1, math.MaxInt - 4096, math.MaxInt - 1, math.MaxInt,
	}
}

// with returns a header that has a number in a field.
func with(h api.Header, f field, n int) api.Header {
	h = clonedHeader(h)
	*f.of(&h) = n
	return h
}

// changed returns a header after a change.
func changed(h api.Header, change func(h *api.Header)) api.Header {
	h = clonedHeader(h)
	change(&h)
	return h
}

// named is a header with what is special about it.
type named struct {
	name string
	h    api.Header
}

// invalid are headers that are not valid by one condition alone.
func invalid() []named {
	var list []named
	data, _ := chapter(1)
	inSet := changed(data, func(h *api.Header) { h.Set, h.Data, h.Parity = 3, 2, 1 })
	parity, _ := withoutParts(api.ContainerParity, 1, 9)
	commit, _ := withoutParts(api.ContainerLog, 1, 9)
	put := func(name string, h api.Header, change func(h *api.Header)) {
		list = append(list, named{name, changed(h, change)})
	}
	for _, base := range []named{{"data", data}, {"data in a set", inSet}, {"parity", parity}, {"log", commit}} {
		for _, f := range fields() {
			for _, n := range []int{math.MinInt, -1, 1<<50 + 1, math.MaxInt} {
				put(base.name+" with a bad "+f.name, base.h, func(h *api.Header) { *f.of(h) = n })
			}
		}
		put(base.name+" of another kind", base.h, func(h *api.Header) { h.Kind = 3 })
		put(base.name+" of version 0", base.h, func(h *api.Header) { h.Version = 0 })
		put(base.name+" of version 3", base.h, func(h *api.Header) { h.Version = 3 })
	}
	put("data with the ID 0", data, func(h *api.Header) { h.ID = 0 })
	put("parity with the ID 0", parity, func(h *api.Header) { h.ID = 0 })
	put("log with the ID 1", commit, func(h *api.Header) { h.ID = 1 })
	put("parity of a great size", parity, func(h *api.Header) { h.Size = 1<<18 + 1 })
	put("log of a great size", commit, func(h *api.Header) { h.Size = 1<<18 + 1 })
	put("parity without a set", parity, func(h *api.Header) { h.Set, h.Index, h.Data, h.Parity = 0, 0, 0, 0 })
	put("log in a set", commit, func(h *api.Header) { h.Set, h.Data = 1, 1 })
	for i, base := range []api.Header{data, commit} {
		for _, f := range fields()[4:7] {
			put([]string{"data", "log"}[i]+" in no set with a "+f.name, base, func(h *api.Header) { *f.of(h) = 1 })
		}
	}
	put("a set without data", inSet, func(h *api.Header) { h.Data = 0 })
	put("a set of too many members by data", inSet, func(h *api.Header) { h.Data = 16 })
	put("a set of too many members by parity", inSet, func(h *api.Header) { h.Parity = 15 })
	put("a set whose members exceed the range of int", inSet, func(h *api.Header) { h.Data, h.Parity = math.MaxInt, math.MaxInt })
	put("parity in a set of too many members", parity, func(h *api.Header) { h.Parity = 15 })
	put("data with the index of parity", inSet, func(h *api.Header) { h.Index = 2 })
	put("data with an index behind the set", inSet, func(h *api.Header) { h.Index = 3 })
	put("parity with the index of data", parity, func(h *api.Header) { h.Index = 1 })
	put("parity with an index behind the set", parity, func(h *api.Header) { h.Index = 3 })
	put("parity with an entry", parity, func(h *api.Header) { h.Entries = []api.Entry{{File: 1, Version: 1, Length: 9}} })
	put("parity with an entry without bytes", parity, func(h *api.Header) { h.Entries = []api.Entry{{File: 1, Version: 1}} })
	put("log with an entry", commit, func(h *api.Header) { h.Entries = []api.Entry{{File: 1, Version: 1, Length: 9}} })
	return append(list, invalidEntries()...)
}

// invalidEntries are data headers that are not valid by one condition alone that concerns the entries.
func invalidEntries() []named {
	var list []named
	three, _ := parts(1, 5, 6, 7)
	put := func(name string, change func(h *api.Header)) {
		list = append(list, named{name, changed(three, change)})
	}
	for at := range 3 {
		x := func(h *api.Header) *api.Entry { return &h.Entries[at] }
		for _, n := range []int{math.MinInt, -1, 0, 1<<50 + 1, math.MaxInt} {
			put("a bad file", func(h *api.Header) { x(h).File = n })
			put("a bad version", func(h *api.Header) { x(h).Version = n })
		}
		for _, n := range []int{math.MinInt, -1, 4097 - three.Entries[at].Length, math.MaxInt} {
			put("a bad offset", func(h *api.Header) { x(h).Offset = n })
		}
		put("a negative length", func(h *api.Header) {
			h.Size -= x(h).Length + 1
			x(h).Length = -1
		})
		put("a great length", func(h *api.Header) {
			h.Size += 4097 - x(h).Length
			x(h).Length = 4097
		})
		put("an end that is too great", func(h *api.Header) {
			h.Size += 4096 - x(h).Length
			x(h).Length, x(h).Offset = 4096, 1
		})
		put("an end that exceeds the range of int", func(h *api.Header) { x(h).Offset, x(h).Length = math.MaxInt, math.MaxInt })
		put("lengths whose sum is less than Size", func(h *api.Header) { x(h).Length-- })
		put("lengths whose sum is greater than Size", func(h *api.Header) { x(h).Length++ })
	}
	put("a size that is too small", func(h *api.Header) { h.Size-- })
	put("a size that is too great", func(h *api.Header) { h.Size++ })
	put("no entries", func(h *api.Header) { h.Entries = nil })
	put("65 entries", func(h *api.Header) {
		h.Entries = append(h.Entries, slices.Repeat([]api.Entry{{File: 1, Version: 1}}, 62)...)
	})
	put("lengths whose sum has exceeded the range of int", func(h *api.Header) {
		h.Entries[0].Length, h.Entries[1].Length, h.Entries[2].Length = math.MaxInt, math.MaxInt, 20
	})
	return list
}

// behind is what may follow the blocks of a container.
func behind() [][]api.Block {
	h, payload := chapter(2)
	return [][]api.Block{
		nil, {{}}, {mark()}, {data("x")}, {{Bad: true}}, {{Mark: true, Bad: true}}, {{Mark: true, Data: []byte("x")}}, {{Bad: true, Data: []byte("x")}},
		{data(string(make([]byte, 64)))}, {data(string(mixed(65))), mark(), {Bad: true}}, buildOf(h, payload).l, slices.Repeat([]api.Block{data("z")}, 100),
	}
}

// input is what Build is called with.
type input struct {
	h       api.Header
	payload []byte
}

// containers returns headers of all kinds with their payloads, whose sizes are at the borders of blocks.
func containers() []input {
	var list []input
	put := func(h api.Header, payload []byte) { list = append(list, input{h, payload}) }
	for version := 1; version <= 2; version++ {
		put(great(version))
		put(withoutParts(api.ContainerLog, version, 1<<18-1))
		put(withoutParts(api.ContainerParity, version, 1<<18))
	}
	return append(list, small()...)
}

// small returns those of them whose payloads are at most a few thousand bytes.
func small() []input {
	var list []input
	put := func(h api.Header, payload []byte) { list = append(list, input{h, payload}) }
	for version := 1; version <= 2; version++ {
		room := roomOf(version)
		put(chapter(version))
		put(parts(version))
		put(parts(version, 0))
		put(parts(version, slices.Repeat([]int{3}, 64)...))
		for _, n := range []int{0, 1, 4, 5, room - 1, room, room + 1, 2*room - 1, 2 * room, 2*room + 1, 10*room - 1, 10 * room, 10*room + 1, 4095, 4096} {
			put(parts(version, n))
			put(parts(version, 0, n, 0))
			put(parts(version, n, 1))
			put(parts(version, 1, n))
			put(parts(version, n/3, n/3, n-n/3*2))
			put(parts(version, n/2, 0, n-n/2))
			put(withoutParts(api.ContainerParity, version, n))
			put(withoutParts(api.ContainerLog, version, n))
		}
	}
	return list
}
