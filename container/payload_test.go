package container_test

import (
	"bytes"
	"math"
	"slices"
	"testing"

	"tapearchive/api"
	"tapearchive/container"
)

// fails checks that Payload returns an error, and Parse none.
func fails(t *testing.T, what string, l []api.Block, want api.Errno) {
	t.Helper()
	if got := pay(t, l); got.e != want {
		t.Errorf("%s: Payload of %s: error %d, want %d", what, name(l), got.e, want)
	}
	if got := parse(t, l); got.e != api.OK {
		t.Errorf("%s: Parse of %s: error %d", what, name(l), got.e)
	}
}

// whole checks that Payload returns this header and this payload.
func whole(t *testing.T, what string, l []api.Block, h api.Header, payload []byte) {
	t.Helper()
	if got := pay(t, l); got.e != api.OK || !same(got.h, h) || !bytes.Equal(got.b, payload) {
		t.Errorf("%s: Payload of %s: %+v, %d bytes, error %d", what, name(l), got.h, len(got.b), got.e)
	}
}

// P15.4: containers of all kinds
func TestPayload(t *testing.T) {
	for _, c := range containers() {
		whole(t, "all blocks", buildOf(c.h, c.payload).l, c.h, c.payload)
	}
}

// P15.4: too few blocks, and blocks behind the container
func TestPayloadOfOtherNumbersOfBlocks(t *testing.T) {
	for _, c := range small() {
		l := buildOf(c.h, c.payload).l
		for n := range l {
			if n < len(headerOf(c.h)) {
				expect(t, "a part of the header", l[:n], api.ErrTruncated)
			} else {
				fails(t, "too few blocks", l[:n], api.ErrTruncated)
			}
		}
		for _, rest := range behind() {
			whole(t, "blocks behind", slices.Concat(l, rest), c.h, c.payload)
		}
	}
}

// badBlock is a payload block with an error.
type badBlock struct {
	name string
	b    api.Block
	e    api.Errno
}

// badBlocks are blocks with all errors that may be in the place of a payload block.
func badBlocks(version int, x api.Block) []badBlock {
	longer, shorter := append(slices.Clone(x.Data), 0), x.Data[:len(x.Data)-1]
	other := slices.Clone(x.Data)
	other[len(other)/2] ^= 4
	list := []badBlock{
		{"a bad block", api.Block{Bad: true, Data: x.Data}, api.ErrMedia},
		{"a bad block without data", api.Block{Bad: true}, api.ErrMedia},
		{"a bad block with more data", api.Block{Bad: true, Data: longer}, api.ErrMedia},
		{"a bad mark", api.Block{Bad: true, Mark: true}, api.ErrMedia},
		{"a bad mark with data", api.Block{Bad: true, Mark: true, Data: x.Data}, api.ErrMedia},
		{"a bad block with other data", api.Block{Bad: true, Data: other}, api.ErrMedia},
		{"a mark", mark(), api.ErrSyntax},
		{"a mark with the data", api.Block{Mark: true, Data: x.Data}, api.ErrSyntax},
		{"a mark with other data", api.Block{Mark: true, Data: other}, api.ErrSyntax},
		{"no data", api.Block{}, api.ErrSyntax},
		{"one byte more", api.Block{Data: longer}, api.ErrSyntax},
		{"one byte less", api.Block{Data: shorter}, api.ErrSyntax},
		{"four bytes more", api.Block{Data: slices.Concat(x.Data, make([]byte, 4))}, api.ErrSyntax},
		{"four bytes less", api.Block{Data: x.Data[:max(0, len(x.Data)-4)]}, api.ErrSyntax},
		{"twice the data", api.Block{Data: slices.Concat(x.Data, x.Data)}, api.ErrSyntax},
		{"200 bytes", api.Block{Data: make([]byte, 200)}, api.ErrSyntax},
		{"other data", api.Block{Data: other}, api.ErrChecksum},
	}
	// In version 1 a block of zero bytes would be right if it stood for such bytes.
	if version == 2 {
		list = append(list, badBlock{"zero bytes", api.Block{Data: make([]byte, len(x.Data))}, api.ErrChecksum})
	}
	return list
}

// P15.4: a bad payload block at each place, in both versions
func TestPayloadOfBadBlocks(t *testing.T) {
	for _, c := range small() {
		l := buildOf(c.h, c.payload).l
		for at := len(headerOf(c.h)); at < len(l); at++ {
			if len(l) > 15 && at > 4 && at < len(l)-2 && at != len(l)/2 {
				continue
			}
			for _, bad := range badBlocks(c.h.Version, l[at]) {
				fails(t, bad.name, replaced(l, at, bad.b), bad.e)
			}
		}
	}
}

// P15.4: bad payload blocks at two places: the error is that of the first one, whatever they are.
func TestPayloadOfTwoBadBlocks(t *testing.T) {
	for version := 1; version <= 2; version++ {
		h, payload := parts(version, 100, 0, 99)
		l := buildOf(h, payload).l
		front := len(headerOf(h))
		for i := front; i < len(l); i++ {
			for k := i + 1; k < len(l); k++ {
				for _, first := range badBlocks(version, l[i]) {
					for _, second := range badBlocks(version, l[k]) {
						want := first.e
						// Only version 2 has a checksum in each block.
						if version == 1 && want == api.ErrChecksum {
							want = second.e
						}
						fails(t, first.name+", "+second.name, replaced(replaced(l, i, first.b), k, second.b), want)
					}
				}
			}
			for _, bad := range badBlocks(version, l[i]) {
				cut := replaced(l, i, bad.b)[:len(l)-1]
				fails(t, bad.name+", and a block is missing", cut, api.ErrTruncated)
			}
		}
	}
}

// P15.4: each changed byte of each payload block: of the payload, and of the checksums of version 2
func TestPayloadOfChangedBlocks(t *testing.T) {
	for version := 1; version <= 2; version++ {
		h, payload := parts(version, 70, 60)
		l := buildOf(h, payload).l
		for at := len(headerOf(h)); at < len(l); at++ {
			for i := range l[at].Data {
				for _, x := range []byte{1, 16, 128, 255} {
					bad := cloned(l)
					bad[at].Data[i] ^= x
					fails(t, "a changed byte", bad, api.ErrChecksum)
				}
			}
			exchanged := cloned(l)
			if at > len(headerOf(h)) && len(exchanged[at].Data) == len(exchanged[at-1].Data) {
				exchanged[at], exchanged[at-1] = exchanged[at-1], exchanged[at]
				fails(t, "exchanged blocks", exchanged, api.ErrChecksum)
			}
		}
	}
}

// P15.4: in version 2, the four bytes behind the payload are the checksum of the bytes in front of them, the most significant one first.
func TestPayloadOfOtherChecksums(t *testing.T) {
	h, payload := parts(2, 70, 60)
	l := buildOf(h, payload).l
	for at := len(headerOf(h)); at < len(l); at++ {
		n := len(l[at].Data) - 4
		b := l[at].Data
		for _, sum := range [][]byte{{b[n+3], b[n+2], b[n+1], b[n]}, {0, 0, 0, 0}, {255, 255, 255, 255}, {^b[n], ^b[n+1], ^b[n+2], ^b[n+3]}} {
			fails(t, "another checksum", replaced(l, at, api.Block{Data: put(b, n, sum...)}), api.ErrChecksum)
		}
		front := slices.Concat(b[n:], b[:n])
		fails(t, "the checksum in front", replaced(l, at, api.Block{Data: front}), api.ErrChecksum)
	}
}

// P15.4: a payload whose checksum is not Sum, and parts whose checksums are not those of the entries
func TestPayloadOfOtherSums(t *testing.T) {
	for _, c := range small() {
		blocks := payloadBlocksOf(c.h.Version, c.payload)
		for _, sum := range []uint32{0, c.h.Sum + 1, ^c.h.Sum, math.MaxUint32} {
			if sum != c.h.Sum {
				other := changed(c.h, func(h *api.Header) { h.Sum = sum })
				fails(t, "another sum", append(headerOf(other), blocks...), api.ErrChecksum)
			}
		}
		for i, x := range c.h.Entries {
			if i > 2 && i < len(c.h.Entries)-2 {
				continue
			}
			for _, sum := range []uint32{x.Sum + 1, ^x.Sum} {
				other := changed(c.h, func(h *api.Header) { h.Entries[i].Sum = sum })
				fails(t, "another sum of an entry", append(headerOf(other), blocks...), api.ErrChecksum)
				other.Sum++
				fails(t, "two other sums", append(headerOf(other), blocks...), api.ErrChecksum)
			}
		}
	}
	// The parts have their sums, but not the payload; and the other way round.
	h, payload := parts(1, 5, 5)
	h.Entries[0], h.Entries[1] = h.Entries[1], h.Entries[0]
	fails(t, "exchanged entries", append(headerOf(h), payloadBlocksOf(1, payload)...), api.ErrChecksum)
	fails(t, "exchanged parts", append(headerOf(h), payloadBlocksOf(1, append(slices.Clone(payload[5:]), payload[:5]...))...), api.ErrChecksum)
}

// P15.4: payload blocks of the other version
func TestPayloadOfTheOtherVersion(t *testing.T) {
	for _, n := range []int{1, 56, 59, 60, 61, 64, 65, 124} {
		for version := 1; version <= 2; version++ {
			h, payload := parts(version, n)
			l := append(headerOf(h), payloadBlocksOf(3-version, payload)...)
			if got := pay(t, append(l, mark(), mark())); got.e != api.ErrSyntax && got.e != api.ErrChecksum {
				t.Errorf("version %d, %d bytes: error %d", version, n, got.e)
			}
		}
	}
}

// P15.4: a payload block may also have more than BlockSize bytes, or look like a header.
func TestPayloadThatLooksLikeAHeader(t *testing.T) {
	inner, b := chapter(1)
	l := buildOf(inner, b).l
	payload := bytesOf(l)
	h := summed(api.Header{ID: 1, Version: 1, Entries: []api.Entry{{File: 1, Version: 1, Length: len(payload)}}}, payload)
	whole(t, "a container in a container", append(headerOf(h), payloadBlocksOf(1, payload)...), h, payload)
	if _, got, e := container.Payload(payloadBlocksOf(1, payload)); e != api.OK || !bytes.Equal(got, b) {
		t.Errorf("the inner container: %x, error %d", got, e)
	}
}

// P15.4: random containers, whose blocks are often changed
func TestPayloadOfRandomBlocks(t *testing.T) {
	var r random
	counts := map[api.Errno]int{}
	list := small()
	for range 8000 {
		c := list[r.below(len(list))]
		counts[pay(t, randomBlocks(&r, buildOf(c.h, c.payload).l)).e]++
	}
	for _, e := range []api.Errno{api.OK, api.ErrTruncated, api.ErrSyntax, api.ErrChecksum, api.ErrMedia} {
		if counts[e] < 100 {
			t.Errorf("the numbers of errors are %v", counts)
		}
	}
}
