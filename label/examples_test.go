package label_test

import (
	"bytes"
	"slices"
	"testing"

	"tapearchive/api"
	"tapearchive/label"
)

// The chapter's example 1
func TestFirstExample(t *testing.T) {
	for s, want := range map[string]bool{"a-1": true, "1a": false, "A": false, "": false} {
		if label.Name(s) != want {
			t.Errorf("%q: %t", s, !want)
		}
	}
}

// The chapter's example 2
func TestSecondExample(t *testing.T) {
	b := bytes.Repeat([]byte{7}, 65)
	l := label.Divide(b)
	if !equal(l, []api.Block{{Data: b[:64]}, {Data: append([]byte{7}, make([]byte, 63)...)}}) {
		t.Error(name(l))
	}
}

// The chapter's example 3
func TestThirdExample(t *testing.T) {
	body := []byte{6, 'v', 'o', 'l', 'u', 'm', 'e', 2, 'A', '1', 1, 'p', 2, 0}
	l, e := label.Blocks(chapter())
	if e != api.OK || len(l) != 2 || len(l[0].Data) != 64 {
		t.Fatalf("%s, error %d", name(l), e)
	}
	data := l[0].Data
	if !bytes.Equal(data[:6], []byte{0xA7, 0x3C, 0, 0, 0, 14}) || !bytes.Equal(data[10:24], body) || !bytes.Equal(data[24:], make([]byte, 40)) {
		t.Errorf("%x", data)
	}
	if !bytes.Equal(data[6:10], sumOf(data[2:6], body)) {
		t.Errorf("the checksum is %x", data[6:10])
	}
	if l[0].Mark || l[0].Bad || !equal(l[1:], []api.Block{{Mark: true}}) {
		t.Error(name(l))
	}
	for _, behind := range [][]api.Block{nil, {mark()}, {{Data: []byte{1}}}, l} {
		if got, n, e := label.Parse(slices.Concat(l, behind)); got != chapter() || n != 2 || e != api.OK {
			t.Error(got, n, e)
		}
	}
}
