package container_test

import (
	"bytes"
	"slices"
	"testing"

	"tapearchive/api"
	"tapearchive/container"
)

// checkBack checks P15.7 for a header and a payload.
func checkBack(t *testing.T, h api.Header, payload []byte, behind ...[]api.Block) {
	t.Helper()
	l, h, e := container.Build(h, payload)
	if e != api.OK || len(l) != container.Blocks(h) {
		t.Fatalf("Build of %+v with %d bytes: %d blocks, not %d, error %d", h, len(payload), len(l), container.Blocks(h), e)
	}
	for _, rest := range behind {
		all := slices.Concat(l, rest)
		if x, n, e := container.Parse(all); !same(x, h) || n != container.HeaderBlocks(h) || e != api.OK {
			t.Errorf("Parse of %+v, and %s: %+v, %d, error %d", h, name(rest), x, n, e)
		}
		if x, b, e := container.Payload(all); !same(x, h) || !bytes.Equal(b, payload) || e != api.OK {
			t.Errorf("Payload of %+v, and %s: %+v, %d bytes, error %d", h, name(rest), x, len(b), e)
		}
	}
}

// P15.7: many headers and payloads, and whatever follows
func TestBack(t *testing.T) {
	for _, c := range containers() {
		checkBack(t, c.h, c.payload, nil, []api.Block{mark()})
	}
	for _, c := range small() {
		checkBack(t, c.h, c.payload, behind()...)
	}
	var r random
	for range 1000 {
		h := randomHeader(&r, 1<<40)
		payload := mixed(h.Size)
		checkBack(t, summed(h, payload), payload, nil, randomBlocks(&r, headerOf(h)))
	}
}

// P15.7: all lengths of payloads of several blocks
func TestBackOfAllLengths(t *testing.T) {
	for version := 1; version <= 2; version++ {
		for n := range 400 {
			h, payload := parts(version, n/2, n-n/2)
			checkBack(t, h, payload, nil, []api.Block{mark()})
			h, payload = withoutParts(api.ContainerLog, version, n)
			checkBack(t, h, payload, nil, []api.Block{data("x")})
		}
	}
}

// P15.7: blocks that Parse accepts begin with the blocks of its header, and those that Payload accepts with the blocks of its container.
func TestForth(t *testing.T) {
	var r random
	accepted := 0
	list := small()
	for range 5000 {
		c := list[r.below(len(list))]
		l := randomBlocks(&r, buildOf(c.h, c.payload).l)
		if h, n, e := container.Parse(l); e == api.OK && !equal(l[:n], headerOf(h)) {
			t.Errorf("Parse accepts %s as %+v", name(l), h)
		}
		h, b, e := container.Payload(l)
		if e != api.OK {
			continue
		}
		accepted++
		if again, _, e := container.Build(h, b); e != api.OK || !equal(again, l[:container.Blocks(h)]) {
			t.Errorf("Payload accepts %s as %+v with %x", name(l), h, b)
		}
	}
	if accepted < 500 {
		t.Errorf("%d were accepted", accepted)
	}
}

// checkBytes checks P15.8 for the bytes of an entry.
func checkBytes(t *testing.T, h api.Header, payload []byte, l []api.Block, x bytesIn) {
	t.Helper()
	s, e := container.Need(h, x.entry, x.offset, x.length)
	if e != api.OK || s.From < 0 || s.Count < 0 || s.From+s.Count > len(l) {
		t.Fatalf("Need of %+v, %+v: %+v, error %d", h, x, s, e)
	}
	want := partOf(h, x.entry, payload)[x.offset:][:x.length]
	b, e := container.Extract(h, x.entry, x.offset, x.length, l[s.From:][:s.Count])
	if e != api.OK || !bytes.Equal(b, want) {
		t.Errorf("Extract of %+v, %+v: %x, error %d, want %x", h, x, b, e, want)
	}
}

// P15.8: all bytes of some containers, and random bytes of many
func TestBytesOfParts(t *testing.T) {
	for version := 1; version <= 2; version++ {
		lengths := []int{70, 0, 55, 1}
		h, payload := parts(version, lengths...)
		l, h, _ := container.Build(h, payload)
		for entry, n := range lengths {
			for offset := range n + 1 {
				for length := range n - offset + 1 {
					checkBytes(t, h, payload, l, bytesIn{entry, offset, length})
				}
			}
		}
	}
	var r random
	for _, c := range containers() {
		l, h, _ := container.Build(c.h, c.payload)
		for i, x := range h.Entries {
			checkBytes(t, h, c.payload, l, bytesIn{i, 0, x.Length})
			for range 5 {
				offset := r.below(x.Length + 1)
				checkBytes(t, h, c.payload, l, bytesIn{i, offset, r.below(x.Length - offset + 1)})
			}
		}
	}
}

// P15.8: the header that Parse returns serves as well.
func TestBytesOfParsedHeaders(t *testing.T) {
	for _, c := range small() {
		l, _, _ := container.Build(c.h, c.payload)
		h, _, _ := container.Parse(l)
		for i, x := range h.Entries {
			checkBytes(t, h, c.payload, l, bytesIn{i, x.Length / 3, x.Length / 2})
		}
	}
}

// checkChange checks P15.9 for a byte of the payload, which is at this place of a block.
func checkChange(t *testing.T, l []api.Block, block, at int, x byte) {
	t.Helper()
	l[block].Data[at] ^= x
	if h, b, e := container.Payload(l); e != api.ErrChecksum || len(b) != 0 || !same(h, api.Header{}) {
		t.Errorf("byte %d of block %d is changed: %+v, %x, error %d", at, block, h, b, e)
	}
	l[block].Data[at] ^= x
}

// P15.9: each byte of the payload is changed, in each way in small containers.
func TestChanges(t *testing.T) {
	for version := 1; version <= 2; version++ {
		room := roomOf(version)
		for _, lengths := range [][]int{{1}, {3}, {60}, {64}, {65, 0, 3}, {20, 50}} {
			h, payload := parts(version, lengths...)
			l, h, _ := container.Build(h, payload)
			for i := range payload {
				for x := 1; x < 256; x += 1 + i%3 {
					checkChange(t, l, container.HeaderBlocks(h)+i/room, i%room, byte(x))
				}
			}
		}
		for _, kind := range []int{api.ContainerParity, api.ContainerLog} {
			h, payload := withoutParts(kind, version, 300)
			l, h, _ := container.Build(h, payload)
			for i := range payload {
				for bit := range 8 {
					checkChange(t, l, container.HeaderBlocks(h)+i/room, i%room, 1<<bit)
				}
			}
		}
	}
}

// P15.9: random bytes of the payload of great containers
func TestChangesOfGreatContainers(t *testing.T) {
	var r random
	for version := 1; version <= 2; version++ {
		h, payload := great(version)
		l, h, _ := container.Build(h, payload)
		for range 30 {
			i := r.below(len(payload))
			checkChange(t, l, container.HeaderBlocks(h)+i/roomOf(version), i%roomOf(version), byte(1+r.below(255)))
		}
		if got, b, e := container.Payload(l); e != api.OK || !same(got, h) || !bytes.Equal(b, payload) {
			t.Errorf("version %d: without a change: error %d", version, e)
		}
	}
}
