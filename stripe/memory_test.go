package stripe_test

import (
	"slices"
	"testing"

	"tapearchive/api"
	"tapearchive/stripe"
)

// roomy returns the same elements with others behind them, in memory that has room for these.
func roomy[T any](l []T, behind ...T) []T {
	return slices.Concat(l, behind)[:len(l)]
}

// full returns all that is in the memory of a list, in new memory.
func full[T any](l []T) []T { return slices.Clone(l[:cap(l)]) }

// spoil changes all that is in the memory of a list.
func spoil[T any](l []T, with T) {
	l = l[:cap(l)]
	for i := range l {
		l[i] = with
	}
}

// fullPayloads and fullHeaders return all that is in the memory of lists, in new memory.
func fullPayloads(l [][]byte) [][]byte {
	l = full(l)
	for i := range l {
		l[i] = full(l[i])
	}
	return l
}

func fullHeaders(l []api.Header) []api.Header {
	l = full(l)
	for i := range l {
		l[i].Entries = full(l[i].Entries)
	}
	return l
}

// spoilPayloads and spoilHeaders change all that is in the memory of lists.
func spoilPayloads(l [][]byte) {
	for _, b := range l[:cap(l)] {
		spoil(b, 77)
	}
	spoil(l, nil)
}

func spoilHeaders(l []api.Header) {
	for _, h := range l[:cap(l)] {
		spoil(h.Entries, api.Entry{File: 77})
	}
	spoil(l, api.Header{ID: 77})
}

// roomyPayloads returns the same payloads with others behind each list.
func roomyPayloads(l [][]byte) [][]byte {
	l = roomy(l, []byte("behind"), nil)
	for i := range l {
		l[i] = roomy(l[i], []byte("behind")...)
	}
	return l
}

// roomyParts returns the same arguments with others behind each list.
func roomyParts(x parts) parts {
	x.set.Members, x.headers, x.payloads = roomy([]int{5, 6}, 7, 8), roomy(x.headers, header(3, 3), header(500, 9)), roomyPayloads(x.payloads)
	for i := range x.headers {
		x.headers[i].Entries = roomy(x.headers[i].Entries, api.Entry{File: 55}, api.Entry{File: 66})
	}
	return x
}

// fullParts returns the arguments with all that is in their memory, in new memory.
func fullParts(x parts) parts {
	x.set.Members, x.headers, x.payloads = full(x.set.Members), fullHeaders(x.headers), fullPayloads(x.payloads)
	return x
}

// spoilParts changes all that is in the memory of arguments.
func spoilParts(x parts) {
	spoil(x.set.Members, 77)
	spoilHeaders(x.headers)
	spoilPayloads(x.payloads)
}

// someParts are arguments of Build of all kinds.
func someParts() []parts {
	list := []parts{chapter(), sample(0, 3), sample(0, 0), sample(2, 0), sample(2, 5, 0, 3), sample(3, 4, 4, 4, 4), sample(1, 5000, 3)}
	x := sample(1, 0, 0)
	x.headers[0].Entries, x.headers[1].Entries = nil, []api.Entry{}
	x.payloads[0], x.payloads[1] = nil, []byte{}
	return append(list, x)
}

// R3: Build changes neither its arguments nor what is behind them, and its results share no memory with them, or with those of another call.
func TestBuildSharesNoMemory(t *testing.T) {
	for _, given := range someParts() {
		want := buildOf(given)
		x := roomyParts(given)
		before := fullParts(x)
		var got, again built
		got.headers, got.payloads, got.row, got.e = stripe.Build(x.set, x.headers, x.payloads, x.next)
		again.headers, again.payloads, again.row, again.e = stripe.Build(x.set, x.headers, x.payloads, x.next)
		unchanged(t, "Build", before, fullParts(x))
		spoilHeaders(again.headers)
		spoilPayloads(again.payloads)
		spoil(again.row.Members, 77)
		unchanged(t, "Build, after a change of its results", before, fullParts(x))
		if !got.same(want) {
			t.Errorf("Build of %s: two results share memory", short(given))
		}
		spoilParts(x)
		if !got.same(want) {
			t.Errorf("Build of %s: %s, want %s: the result shares memory with the arguments", short(given), got, want)
		}
	}
}

// checkSeparate checks that no two lists share memory, also not behind their ends: what is written to all of the memory of one stays there.
func checkSeparate[T comparable](t *testing.T, what string, l [][]T, element func(i int) T) {
	t.Helper()
	for i := range l {
		spoil(l[i], element(i))
	}
	for i := range l {
		if slices.ContainsFunc(full(l[i]), func(x T) bool { return x != element(i) }) {
			t.Errorf("%s: list %d shares memory with another one", what, i)
		}
	}
}

// R3: no two payloads of a result share memory, and no two lists of entries.
func TestMembersShareNoMemory(t *testing.T) {
	for _, given := range someParts() {
		x := given.cloned()
		// The arguments may share memory.
		for i := range x.headers {
			for j := range i {
				if x.headers[i].Size == x.headers[j].Size {
					x.headers[i].Entries, x.payloads[i] = x.headers[j].Entries, x.payloads[j]
				}
			}
		}
		b := makes(t, "shared arguments", x)
		var entries [][]api.Entry
		for _, h := range b.headers {
			entries = append(entries, h.Entries)
		}
		checkSeparate(t, "Build", entries, func(i int) api.Entry { return api.Entry{File: -1 - i} })
		checkSeparate(t, "Build", b.payloads, func(i int) byte { return byte(200 + i) })
		b = built{}
		b.headers, b.payloads, b.row, b.e = stripe.Build(x.set, x.headers, x.payloads, x.next)
		for _, have := range choices(len(b.payloads)) {
			if count(have) < x.set.Data || len(have) > 6 {
				continue
			}
			y := losses{b.row, clonedPayloads(b.payloads), have, sizesOf(b.payloads)}
			for i := range y.payloads {
				for j := range i {
					if slices.Equal(y.payloads[i], y.payloads[j]) {
						y.payloads[i] = y.payloads[j]
					}
				}
			}
			got := restore(t, "shared arguments", y)
			checkSeparate(t, "Recover", got.payloads, func(i int) byte { return byte(200 + i) })
		}
	}
}

// R3: Recover changes neither its arguments nor what is behind them, and its results share no memory with them, or with those of another call.
func TestRecoverSharesNoMemory(t *testing.T) {
	for _, given := range someParts() {
		b := buildOf(given)
		for _, have := range choices(len(b.payloads)) {
			if len(have) > 6 {
				continue
			}
			x := losses{b.row, roomyPayloads(b.payloads), roomy(have, true, true, false), roomy(sizesOf(b.payloads), 3, 4)}
			x.s.Members = roomy(x.s.Members, 3, 4)
			memory := func() losses {
				s := x.s
				s.Members = full(s.Members)
				return losses{s, fullPayloads(x.payloads), full(x.have), full(x.sizes)}
			}
			before := memory()
			want := recoverOf(x)
			got, e := stripe.Recover(x.s, x.payloads, x.have, x.sizes)
			again, _ := stripe.Recover(x.s, x.payloads, x.have, x.sizes)
			unchanged(t, "Recover", before, memory())
			spoilPayloads(again)
			unchanged(t, "Recover, after a change of its results", before, memory())
			if !samePayloads(got, want.payloads) || e != want.e {
				t.Errorf("Recover of %s: two results share memory", short(before))
			}
			spoilPayloads(x.payloads)
			spoil(x.s.Members, 77)
			spoil(x.sizes, 77)
			spoil(x.have, false)
			if !samePayloads(got, want.payloads) || e != want.e {
				t.Errorf("Recover of %s: the result shares memory with the arguments", short(before))
			}
		}
	}
}

// R3: Place changes neither its arguments nor what is behind them, and its result is its own.
func TestPlaceSharesNoMemory(t *testing.T) {
	var r random
	for range 300 {
		x := randomVolumes(&r, 20)
		want := placeOf(x)
		x.l, x.free = roomy(x.l, open("A"), open("Z")), roomy(x.free, 99, -1)
		l, free := full(x.l), full(x.free)
		got, _ := stripe.Place(x.l, x.free, x.pool, x.n, x.need)
		again, _ := stripe.Place(x.l, x.free, x.pool, x.n, x.need)
		spoil(again, "spoiled")
		if !slices.Equal(got, want.barcodes) {
			t.Errorf("Place of %s: two results share memory", short(x))
		}
		if !slices.Equal(full(x.l), l) || !slices.Equal(full(x.free), free) {
			t.Errorf("Place of %s: the memory has become %s and %v", short(l), short(full(x.l)), full(x.free))
		}
	}
}

// R3: Valid and Margin change neither their arguments nor what is behind them, and do not depend on it.
func TestRowsKeepTheirMemory(t *testing.T) {
	plans(func(data, parity int) {
		s := row(data, parity)
		slices.Reverse(s.Members)
		have := slices.Repeat([]bool{true, false}, 8)[:data+parity]
		want := stripe.Margin(s, have)
		s.Members, have = roomy(s.Members, s.Members[0], 0), roomy(have, true, true)
		before, beforeHave := full(s.Members), full(have)
		if !stripe.Valid(s) || stripe.Margin(s, have) != want {
			t.Errorf("%+v depends on what is behind it", s)
		}
		unchanged(t, "Members", before, full(s.Members))
		unchanged(t, "have", beforeHave, full(have))
	})
}

// R3: what is behind the end of a list is not in it.
func TestMemoryBehindLists(t *testing.T) {
	x := sample(1, 3, 3, 3)
	x.set.Data = 2
	fails(t, "a header and a payload too many", x, api.ErrInvalid)
	x.headers, x.payloads = x.headers[:2], x.payloads[:2]
	makes(t, "with more behind", x)
	x.set.Data = 3
	fails(t, "the rest is behind", x, api.ErrInvalid)
	x = roomyParts(sample(1, 3, 3))
	x.headers[0].Size = 9
	fails(t, "the rest of the payload is behind", x, api.ErrInvalid)
	y := lossesOf(1, 3, 3)
	y.payloads = roomyPayloads(y.payloads)
	y.sizes = []int{3, 9, 9}
	denies(t, "the rest of the payload is behind", y, api.ErrInvalid)
	y.sizes, y.have = []int{3, 3, 3}, all(4)[:2]
	denies(t, "the rest of have is behind", y, api.ErrInvalid)
	z := opens("ABC", 5, 6, 7)
	z.l, z.free = z.l[:2], z.free[:2]
	chooses(t, "with more behind", z.with(2, 0), "B,A")
	refuses(t, "with more behind", z.with(3, 0), api.ErrFull)
	z.l = z.l[:3]
	refuses(t, "the rest of free is behind", z.with(1, 0), api.ErrInvalid)
}

// R3: nil and empty lists are equal.
func TestNilAndEmpty(t *testing.T) {
	nothing := [][]byte{nil, {}, make([]byte, 0, 10)}
	for _, first := range nothing {
		for _, second := range nothing {
			x := sample(1, 0, 0)
			x.payloads = [][]byte{first, second}
			for _, entries := range [][]api.Entry{nil, {}, make([]api.Entry, 0, 10)} {
				x.headers[0].Entries = entries
				b := makes(t, "no bytes", x)
				y := losses{b.row, [][]byte{first, second, nil}, all(3), []int{0, 0, 0}}
				restores(t, "no bytes", y, [][]byte{nil, nil, nil})
				y.have[0] = false
				restores(t, "no bytes", y, [][]byte{nil, nil, nil})
			}
		}
	}
	for _, l := range [][]api.Volume{nil, {}, make([]api.Volume, 0, 10)} {
		for _, free := range [][]int{nil, {}, make([]int, 0, 10)} {
			refuses(t, "no volumes", volumes{l, free, "p", 1, 0}, api.ErrFull)
			refuses(t, "no volumes", volumes{l, free, "p", 0, 0}, api.ErrInvalid)
		}
	}
	for _, headers := range [][]api.Header{nil, {}} {
		for _, payloads := range [][][]byte{nil, {}} {
			fails(t, "no containers", parts{api.Set{ID: 1}, headers, payloads, 1}, api.ErrRange)
			fails(t, "no containers", parts{api.Set{ID: 1, Data: 1}, headers, payloads, 1}, api.ErrInvalid)
		}
	}
}
