package label_test

import (
	"bytes"
	"slices"
	"testing"

	"tapearchive/api"
	"tapearchive/label"
)

// counted returns n bytes that are not 0.
func counted(n int) []byte {
	b := make([]byte, n)
	for i := range b {
		b[i] = byte(i%255 + 1)
	}
	return b
}

// checkDivide checks Divide, and that the bytes remain as they are.
func checkDivide(t *testing.T, b []byte) {
	t.Helper()
	before := slices.Clone(b)
	l := label.Divide(b)
	if !equal(l, divided(before)) {
		t.Errorf("Divide of %d bytes %x: %s", len(b), before, name(l))
	}
	if !bytes.Equal(b, before) {
		t.Errorf("Divide has changed %x to %x", before, b)
	}
	// P14.6
	back := label.Bytes(l)
	if len(back)-len(b) < 0 || len(back)-len(b) >= 64 || !bytes.Equal(back[:len(b)], before) || !bytes.Equal(back[len(b):], make([]byte, len(back)-len(b))) {
		t.Errorf("Bytes of Divide of %x: %x", before, back)
	}
}

// P14.2, P14.6: Divide of all lengths up to several blocks, and of many bytes
func TestDivide(t *testing.T) {
	for _, c := range []struct{ bytes, blocks int }{{0, 0}, {1, 1}, {63, 1}, {64, 1}, {65, 2}, {127, 2}, {128, 2}, {129, 3}, {6400, 100}, {6401, 101}, {1 << 20, 1 << 14}} {
		if l := label.Divide(counted(c.bytes)); len(l) != c.blocks {
			t.Errorf("%d bytes: %d blocks, want %d", c.bytes, len(l), c.blocks)
		}
		checkDivide(t, counted(c.bytes))
	}
	checkDivide(t, nil)
	checkDivide(t, []byte{})
	for n := range 400 {
		checkDivide(t, counted(n))
		checkDivide(t, make([]byte, n))
		checkDivide(t, bytes.Repeat([]byte{255}, n))
		checkDivide(t, append(counted(n), 0))
	}
}

// P14.2, P14.6: what is behind the end of a slice plays no part.
func TestDivideWithRoom(t *testing.T) {
	for _, n := range []int{0, 1, 10, 63, 64, 65, 128, 199, 200} {
		memory := bytes.Repeat([]byte{99}, 200)
		l := label.Divide(memory[:n])
		if !equal(l, divided(bytes.Repeat([]byte{99}, n))) {
			t.Errorf("%d bytes: %s", n, name(l))
		}
		if !bytes.Equal(memory, bytes.Repeat([]byte{99}, 200)) {
			t.Errorf("%d bytes: the memory is now %x", n, memory)
		}
	}
}

// P14.6: random bytes
func TestDivideRandomBytes(t *testing.T) {
	var r random
	for range 500 {
		b := make([]byte, r.below(1000))
		for i := range b {
			b[i] = byte(r.below(256))
		}
		checkDivide(t, b)
	}
}

// checkBytes checks Bytes, and that the blocks remain as they are.
func checkBytes(t *testing.T, l []api.Block, want string) {
	t.Helper()
	before := cloned(l)
	if got := label.Bytes(l); string(got) != want || string(bytesOf(l)) != want {
		t.Errorf("Bytes of %s: %x, want %x", name(l), got, want)
	}
	if !equal(l, before) {
		t.Errorf("Bytes has changed %s to %s", name(before), name(l))
	}
}

// data returns a data block.
func data(s string) api.Block { return api.Block{Data: []byte(s)} }

// P14.2: Bytes with marks, bad blocks and bad marks at the first place, in the middle and at the last one, with data and without
func TestBytes(t *testing.T) {
	checkBytes(t, nil, "")
	checkBytes(t, []api.Block{}, "")
	for _, c := range []struct {
		l    []api.Block
		want string
	}{
		{[]api.Block{data("ab")}, "ab"},
		{[]api.Block{data("ab"), data("c"), data("def")}, "abcdef"},
		{[]api.Block{{}}, ""},
		{[]api.Block{{}, {Data: []byte{}}, {}}, ""},
		{[]api.Block{{}, data("ab"), {}, data("c"), {}}, "abc"},
		{[]api.Block{data("\x00\x00"), data("\xff"), data("\x00")}, "\x00\x00\xff\x00"},
		{[]api.Block{data(string(counted(64))), data(string(counted(65))), data(string(counted(1000)))}, string(slices.Concat(counted(64), counted(65), counted(1000)))},
	} {
		checkBytes(t, c.l, c.want)
	}
	for _, s := range []string{"", "x", "xyz"} {
		for _, end := range []api.Block{{Mark: true, Data: []byte(s)}, {Bad: true, Data: []byte(s)}, {Mark: true, Bad: true, Data: []byte(s)}} {
			checkBytes(t, []api.Block{end}, "")
			checkBytes(t, []api.Block{end, data("ab"), data("c")}, "")
			checkBytes(t, []api.Block{data("ab"), end, data("c")}, "ab")
			checkBytes(t, []api.Block{data("ab"), data("c"), end}, "abc")
			checkBytes(t, []api.Block{end, end}, "")
			checkBytes(t, []api.Block{{}, end, data("ab")}, "")
			checkBytes(t, []api.Block{data("ab"), end, data("c"), end, data("d")}, "ab")
		}
	}
}

// P14.2: all lists of up to five blocks of eight kinds
func TestBytesOfAllLists(t *testing.T) {
	kinds := []api.Block{data("ab"), data("c"), {}, {Mark: true}, {Bad: true}, {Mark: true, Bad: true}, {Mark: true, Data: []byte("d")}, {Bad: true, Data: []byte("e")}}
	for n := range 6 {
		total := 1
		for range n {
			total *= len(kinds)
		}
		for number := range total {
			l := make([]api.Block, n)
			for i := range l {
				l[i] = kinds[number%len(kinds)]
				number /= len(kinds)
			}
			checkBytes(t, l, string(bytesOf(l)))
		}
	}
}
