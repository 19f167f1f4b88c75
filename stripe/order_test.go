package stripe_test

import (
	"math"
	"slices"
	"strings"
	"testing"

	"tapearchive/api"
)

// fault makes a function return an error, by a change of its arguments. Of those of one kind, other than "", only one is put.
type fault[T any] struct {
	name, kind string
	e          api.Errno
	put        func(x *T)
}

// together calls a function with each set of faults, of which there is at most one of each kind, and the arguments with them.
func together[T any](all []fault[T], base func() T, call func(names string, x T, want api.Errno)) {
	for set := range 1 << len(all) {
		x, want := base(), api.OK
		var names []string
		kinds := map[string]bool{}
		twice := false
		for i, f := range all {
			if set>>i&1 == 0 {
				continue
			}
			twice = twice || f.kind != "" && kinds[f.kind]
			kinds[f.kind] = true
			names = append(names, f.name)
			if want == api.OK {
				want = f.e
			}
		}
		if twice {
			continue
		}
		// What changes the numbers of elements is put last: the faults of the others stay where they are.
		for i := len(all) - 1; i >= 0; i-- {
			if set>>i&1 == 1 {
				all[i].put(&x)
			}
		}
		call(strings.Join(names, ", "), x, want)
	}
}

// buildFaults are those of Build, in the order of their errors, for a set of 4 data containers and 2 parity containers.
func buildFaults() []fault[parts] {
	of := func(kind, name string, e api.Errno, put func(x *parts)) fault[parts] {
		return fault[parts]{name: name, kind: kind, e: e, put: put}
	}
	return []fault[parts]{
		of("ID", "the ID 0", api.ErrRange, func(x *parts) { x.set.ID = 0 }),
		of("ID", "an ID that is too great", api.ErrRange, func(x *parts) { x.set.ID = 1<<50 + 1 }),
		of("plan", "no data", api.ErrRange, func(x *parts) { x.set.Data = 0 }),
		of("plan", "negative parity", api.ErrRange, func(x *parts) { x.set.Parity = -1 }),
		of("plan", "too many members", api.ErrRange, func(x *parts) { x.set.Parity = 13 }),
		of("plan", "far too many members", api.ErrRange, func(x *parts) { x.set.Data, x.set.Parity = math.MaxInt, math.MaxInt }),
		of("headers", "a header is missing", api.ErrInvalid, func(x *parts) { x.headers = x.headers[:3] }),
		of("headers", "a header is too many", api.ErrInvalid, func(x *parts) { x.headers = append(x.headers, header(77, 3)) }),
		of("payloads", "a payload is missing", api.ErrInvalid, func(x *parts) { x.payloads = x.payloads[:3] }),
		of("payloads", "a payload is too many", api.ErrInvalid, func(x *parts) { x.payloads = append(x.payloads, nil) }),
		of("", "a header that is not valid", api.ErrInvalid, func(x *parts) { x.headers[0].Version = 3 }),
		of("", "another kind", api.ErrInvalid, func(x *parts) {
			x.headers[1].Kind, x.headers[1].ID, x.headers[1].Entries = api.ContainerLog, 0, nil
		}),
		of("", "another set", api.ErrInvalid, func(x *parts) { x.headers[2].Set, x.headers[2].Data = 8, 1 }),
		of("", "another size", api.ErrInvalid, func(x *parts) { x.payloads[2] = mixed(4, 1) }),
		of("next", "next is 0", api.ErrRange, func(x *parts) { x.next = 0 }),
		of("next", "next is too great", api.ErrRange, func(x *parts) { x.next = 1 << 50 }),
		of("next", "the greatest next", api.ErrRange, func(x *parts) { x.next = math.MaxInt }),
		of("", "two equal numbers", api.ErrExists, func(x *parts) { x.headers[2].ID = x.headers[0].ID }),
		of("next", "next is the number of a header", api.ErrExists, func(x *parts) { x.next = x.headers[0].ID - 1 }),
	}
}

// P17.2: all errors together, in every combination
func TestOrderOfErrorsOfBuild(t *testing.T) {
	base := func() parts { return sample(2, 3, 3, 3, 3) }
	together(buildFaults(), base, func(names string, x parts, want api.Errno) {
		if want == api.OK {
			makes(t, "no fault", x)
			return
		}
		fails(t, names, x, want)
	})
}

// P17.2: errors of the headers and of next together with the numbers that they leave equal
func TestEqualNumbersWithOtherErrors(t *testing.T) {
	for _, next := range []int{0, -1, 1<<50 + 1, math.MaxInt, math.MinInt} {
		x := sample(1, 3, 3)
		x.headers[1].ID, x.next = x.headers[0].ID, next
		fails(t, "next", x, api.ErrRange)
	}
	x := sample(2, 3, 3)
	x.headers[1].ID, x.next = 1<<50, 1<<50
	fails(t, "the last number is behind the greatest one", x, api.ErrRange)
	x.set.Parity = 1
	fails(t, "the greatest number twice", x, api.ErrExists)
	x.set.Parity = 0
	makes(t, "no number from next on", x)
	x.next++
	makes(t, "no number from next on", x)
	x.next++
	fails(t, "next is too great without parity", x, api.ErrRange)
	x = sample(1, 3, 3)
	x.headers[0].ID, x.headers[1].ID = 0, 0
	fails(t, "equal numbers that are not valid", x, api.ErrInvalid)
}

// recoverFaults are those of Recover, in the order of their errors, for a set of 3 data members and 2 parity members.
func recoverFaults() []fault[losses] {
	of := func(kind, name string, e api.Errno, put func(x *losses)) fault[losses] {
		return fault[losses]{name: name, kind: kind, e: e, put: put}
	}
	return []fault[losses]{
		of("", "a bad ID", api.ErrInvalid, func(x *losses) { x.s.ID = 0 }),
		of("", "no data", api.ErrInvalid, func(x *losses) { x.s.Data = 0 }),
		of("", "equal members", api.ErrInvalid, func(x *losses) { x.s.Members[4] = x.s.Members[0] }),
		of("payloads", "a payload is missing", api.ErrInvalid, func(x *losses) { x.payloads = x.payloads[:4] }),
		of("payloads", "a payload is too many", api.ErrInvalid, func(x *losses) { x.payloads = append(x.payloads, nil) }),
		of("have", "an element of have is missing", api.ErrInvalid, func(x *losses) { x.have = x.have[:4] }),
		of("have", "an element of have is too many", api.ErrInvalid, func(x *losses) { x.have = append(x.have, true) }),
		of("sizes", "a size is missing", api.ErrInvalid, func(x *losses) { x.sizes = x.sizes[:4] }),
		of("sizes", "a size is too many", api.ErrInvalid, func(x *losses) { x.sizes = append(x.sizes, 4) }),
		of("", "a negative size", api.ErrInvalid, func(x *losses) { x.sizes[0] = -1 }),
		of("", "a size that is too great", api.ErrInvalid, func(x *losses) { x.sizes[2] = 65537 }),
		of("", "a size of parity that is not the length", api.ErrInvalid, func(x *losses) { x.sizes[4] = 3 }),
		of("", "a payload of another size", api.ErrInvalid, func(x *losses) { x.payloads[3] = []byte{1, 2, 3}; x.have[3] = true }),
		of("there", "two members are there", api.ErrLost, func(x *losses) { x.have[2], x.have[4] = false, false }),
		of("there", "one member is there", api.ErrLost, func(x *losses) { x.have[1], x.have[2], x.have[4] = false, false, false }),
		of("", "bytes that do not fit", api.ErrCorrupt, func(x *losses) { x.payloads[1][3] ^= 1 }),
	}
}

// P17.3: all errors together, in every combination
func TestOrderOfErrorsOfRecover(t *testing.T) {
	// The member 0 has 1 byte, of which the lost 3 that the others have must be 0.
	base := func() losses { return lossesOf(2, 1, 4, 4).lost(0, 3) }
	together(recoverFaults(), base, func(names string, x losses, want api.Errno) {
		if want == api.OK {
			restores(t, "no fault", x, buildOf(sample(2, 1, 4, 4)).payloads)
			return
		}
		denies(t, names, x, want)
	})
}

// placeFaults are those of Place, in the order of their errors, for 3 volumes of which all are to be chosen.
func placeFaults() []fault[volumes] {
	of := func(kind, name string, e api.Errno, put func(x *volumes)) fault[volumes] {
		return fault[volumes]{name: name, kind: kind, e: e, put: put}
	}
	return []fault[volumes]{
		of("free", "an element of free is missing", api.ErrInvalid, func(x *volumes) { x.free = x.free[:2] }),
		of("free", "an element of free is too many", api.ErrInvalid, func(x *volumes) { x.free = append(x.free, 9) }),
		of("n", "n is 0", api.ErrInvalid, func(x *volumes) { x.n = 0 }),
		of("n", "n is negative", api.ErrInvalid, func(x *volumes) { x.n = math.MinInt }),
		of("need", "need is -1", api.ErrInvalid, func(x *volumes) { x.need = -1 }),
		of("need", "the least need", api.ErrInvalid, func(x *volumes) { x.need = math.MinInt }),
		of("need", "need is too great", api.ErrFull, func(x *volumes) { x.need = 7 }),
		of("n", "n is too great", api.ErrFull, func(x *volumes) { x.n = 4 }),
		of("", "another pool", api.ErrFull, func(x *volumes) { x.l[0].Pool = "q" }),
		of("", "another state", api.ErrFull, func(x *volumes) { x.l[1].State = api.VolumeFull }),
		of("", "too few free blocks", api.ErrFull, func(x *volumes) { x.free[1] = 3 }),
	}
}

// P17.4: all errors together, in every combination
func TestOrderOfErrorsOfPlace(t *testing.T) {
	base := func() volumes { return opens("ABC", 6, 9, 7).with(3, 4) }
	together(placeFaults(), base, func(names string, x volumes, want api.Errno) {
		if want == api.OK {
			chooses(t, "no fault", x, "B,C,A")
			return
		}
		refuses(t, names, x, want)
	})
}

// P17.3, P17.5: with a row that is not valid, lists that suit it do not help, and with lists that do not suit it, no row does.
func TestRowsAndLists(t *testing.T) {
	for _, c := range invalidRows() {
		for n := range 4 {
			x := losses{c.s, make([][]byte, n), all(n), make([]int, n)}
			denies(t, c.name, x, api.ErrInvalid)
		}
	}
	s := row(2, 1)
	for n := range 6 {
		x := losses{s, make([][]byte, n), make([]bool, n), slices.Repeat([]int{5}, n)}
		want := api.ErrInvalid
		if n == 3 {
			want = api.ErrLost
		}
		denies(t, "nothing is there", x, want)
	}
}
