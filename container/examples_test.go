package container_test

import (
	"bytes"
	"testing"

	"tapearchive/api"
	"tapearchive/container"
)

// chapter, example 1
func TestExampleHeader(t *testing.T) {
	for version, size := range map[int]int{1: 3, 2: 7} {
		h, payload := chapter(version)
		l, got, e := container.Build(h, payload)
		if e != api.OK || !same(got, h) || len(l) != 2 || len(l[0].Data) != 64 || len(l[1].Data) != size {
			t.Fatalf("version %d: %s, %+v, error %d", version, name(l), got, e)
		}
		if n := container.HeaderBlocks(h); n != 1 {
			t.Errorf("HeaderBlocks: %d", n)
		}
		if n := container.Blocks(h); n != 2 {
			t.Errorf("Blocks: %d", n)
		}
		first := l[0].Data
		if !bytes.Equal(first[:6], []byte{0xA7, 0x3C, 0, 0, 0, 24}) || first[33] == 0 || !bytes.Equal(first[34:], make([]byte, 30)) {
			t.Errorf("the header block is %x", first)
		}
		// The CRC-32C of "abc" is 0x364B3FB7; with 2^32, its groups are 55, 127, 44, 50 and 19.
		sum := []byte{0xB7, 0xFF, 0xAC, 0xB2, 0x13}
		want := append([]byte{7, 0, byte(version), 0, 0, 0, 0, 0, 1, 1, 1, 0, 3}, sum...)
		want = append(append(want, 3), sum...)
		if !bytes.Equal(first[10:34], want) {
			t.Errorf("the encoding is %x, want %x", first[10:34], want)
		}
		if block := append([]byte("abc"), 0x36, 0x4B, 0x3F, 0xB7)[:size]; !bytes.Equal(l[1].Data, block) {
			t.Errorf("the payload block is %x, want %x", l[1].Data, block)
		}
	}
}

// chapter, example 2
func TestExampleNeed(t *testing.T) {
	h, payload := parts(2, 100)
	l, _, _ := container.Build(h, payload)
	if s, e := container.Need(h, 0, 50, 20); e != api.OK || s != (api.Span{From: 1, Count: 2}) {
		t.Errorf("Need: %+v, error %d", s, e)
	}
	if b, e := container.Extract(h, 0, 50, 20, l[1:3]); e != api.OK || !bytes.Equal(b, payload[50:70]) {
		t.Errorf("Extract: %x, error %d", b, e)
	}
	if !bytes.Equal(l[1].Data[:60], payload[:60]) || !bytes.Equal(l[2].Data[:40], payload[60:]) || len(l[1].Data) != 64 || len(l[2].Data) != 44 {
		t.Errorf("the blocks are %s", name(l))
	}
}

// chapter, example 3
func TestExampleLog(t *testing.T) {
	h := api.Header{Kind: api.ContainerLog, Version: 1, Commit: 3}
	l, got, e := container.Build(h, []byte("a commit"))
	if e != api.OK || got.ID != 0 || len(got.Entries) != 0 || got.Size != 8 || len(l) != 2 {
		t.Fatalf("%s, %+v, error %d", name(l), got, e)
	}
	if x, b, e := container.Payload(l); e != api.OK || !same(x, got) || string(b) != "a commit" {
		t.Errorf("Payload: %+v, %q, error %d", x, b, e)
	}
	h.ID = 1
	if l, _, e := container.Build(h, []byte("a commit")); e != api.ErrInvalid || len(l) != 0 {
		t.Errorf("with the ID 1: %s, error %d", name(l), e)
	}
	h.ID, h.Entries = 0, []api.Entry{{File: 1, Version: 1, Length: 8, Sum: crc([]byte("a commit"))}}
	if l, _, e := container.Build(h, []byte("a commit")); e != api.ErrInvalid || len(l) != 0 {
		t.Errorf("with an entry: %s, error %d", name(l), e)
	}
}
