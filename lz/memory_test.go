package lz_test

import (
	"bytes"
	"slices"
	"testing"

	"tapearchive/api"
	"tapearchive/lz"
)

// call is a call of one of the functions that take bytes.
type call struct {
	name string
	do   func(b []byte) ([]byte, int, api.Errno)
}

// calls returns calls of all functions that take bytes; most is what Unpack and Size are given.
func calls(most int) []call {
	return []call{
		{"Pack", func(b []byte) ([]byte, int, api.Errno) { return lz.Pack(b), 0, api.OK }},
		{"Unpack", func(b []byte) ([]byte, int, api.Errno) {
			made, e := lz.Unpack(b, most)
			return made, 0, e
		}},
		{"Size", func(b []byte) ([]byte, int, api.Errno) {
			size, e := lz.Size(b, most)
			return nil, size, e
		}},
	}
}

// checkMemory checks that a call does not change its argument, also behind its length, nor depends on what is there, and that the result is new memory (R3).
func checkMemory(t *testing.T, c call, b []byte) {
	t.Helper()
	want, size, e := c.do(slices.Clip(bytes.Clone(b)))
	want = bytes.Clone(want)
	memory := slices.Concat(b, []byte{2, 97, 3, 1, 0, 98, 98, 98, 98, 98, 98, 98})
	before := bytes.Clone(memory)
	got, gotSize, f := c.do(memory[:len(b)])
	if !bytes.Equal(got, want) || gotSize != size || f != e {
		t.Errorf("%s of %s: %s %d %d, but without memory behind it %s %d %d", c.name, short(b), short(got), gotSize, f, short(want), size, e)
	}
	again, _, _ := c.do(memory[:len(b)])
	again = again[:cap(again)]
	for i := range again {
		again[i] ^= 255
	}
	if !bytes.Equal(got, want) {
		t.Errorf("%s of %s: two results share memory", c.name, short(b))
	}
	if !bytes.Equal(memory, before) {
		t.Errorf("%s of %s: the memory %s has become %s, or the result is in it", c.name, short(b), short(before), short(memory))
	}
	clear(memory)
	if !bytes.Equal(got, want) {
		t.Errorf("%s of %s: the result shares memory with the argument", c.name, short(b))
	}
}

// R3: strings, valid forms and forms with errors
func TestNoSharedMemory(t *testing.T) {
	var r random
	list := [][]byte{nil, {}, {97}, {0}, {1}, {2}, {3}, {5}, {2, 97}, {4, 97}, {4, 97, 98}, {4, 97, 98, 9, 2}, {4, 97, 98, 9}, {4, 97, 98, 9, 3}, {0x80}, bytes.Repeat([]byte{97}, 70)}
	for _, n := range []int{1, 2, 3, 4, 5, 63, 64, 65, 300} {
		list = append(list, r.bytes(n, 2), r.bytes(n, 256), form{}.literals(string(r.bytes(n, 256))))
	}
	for range 300 {
		f, result := randomForm(&r)
		list = append(list, f, []byte(result), f.with(0), f.with(3, 1))
	}
	for _, b := range list {
		for _, most := range []int{-1, 0, 1, 5, 100, 1 << 16} {
			for _, c := range calls(most) {
				checkMemory(t, c, b)
			}
		}
	}
}

// R2: with an error there is no result.
func TestNoResultWithError(t *testing.T) {
	for _, b := range []form{form{}.literals("ab").with(0), form{}.literals("ab").with(0x80), form{}.literals("ab").with(4, 97), form{}.literals("ab").copy(1, 3), form{}.literals("ab").copy(9, 1), form{}.literals("abcdefgh")} {
		made, e := lz.Unpack(b, 7)
		size, f := lz.Size(b, 7)
		if len(made) != 0 || size != 0 || e == api.OK || f != e {
			t.Errorf("%s: %s %d, %d %d", short(b), short(made), e, size, f)
		}
	}
}
