package merkle_test

import (
	"bytes"
	"slices"
	"testing"

	"tapearchive/merkle"
)

// call is a call of one of the functions that take hashes, with other arguments that fit; the result is given as a list.
type call struct {
	name string
	do   func(list []uint64) ([]uint64, bool)
}

// calls returns calls of all functions that take hashes, for lists of n of them.
func calls(n int) []call {
	list := []call{{"Root", func(l []uint64) ([]uint64, bool) { return []uint64{merkle.Root(l)}, true }}}
	for i := -1; i <= n+1; i++ {
		list = append(list,
			call{"Proof", func(l []uint64) ([]uint64, bool) { return merkle.Proof(l, i) }},
			call{"Prefix", func(l []uint64) ([]uint64, bool) { return merkle.Prefix(l, i) }},
			call{"Verify", func(l []uint64) ([]uint64, bool) { return nil, merkle.Verify(1, 2, i, 1<<n, l) }},
			call{"Extends", func(l []uint64) ([]uint64, bool) { return nil, merkle.Extends(1, 2, i, 1<<n, l) }},
		)
	}
	return list
}

// R3: the arguments stay as they are, also behind their length, and the results are new memory.
func TestNoSharedMemory(t *testing.T) {
	var r random
	for _, n := range []int{0, 1, 2, 3, 4, 5, 7, 8, 9, 16, 17, 31} {
		for _, c := range calls(n) {
			memory := r.hashes(n + 40)
			before := slices.Clone(memory)
			want, is := c.do(slices.Clip(slices.Clone(memory[:n])))
			got, ok := c.do(memory[:n])
			again, _ := c.do(memory[:n])
			if !same(got, want) || ok != is {
				t.Errorf("%s of %d hashes: %v %t instead of %v %t", c.name, n, got, ok, want, is)
			}
			again = again[:cap(again)]
			for i := range again {
				again[i] = ^again[i]
			}
			if !same(got, want) {
				t.Errorf("%s of %d hashes: two results share memory", c.name, n)
			}
			if !same(memory, before) {
				t.Errorf("%s of %d hashes: %v has become %v, or the result is in the same memory", c.name, n, before, memory)
			}
			clear(memory)
			if !same(got, want) {
				t.Errorf("%s of %d hashes: the result shares memory with the argument", c.name, n)
			}
		}
	}
}

// R3: valid proofs with room behind them
func TestProofsStayUnchanged(t *testing.T) {
	var r random
	for n := 1; n <= 40; n++ {
		leaves := r.hashes(n)
		root := rootOf(leaves)
		for i := range n {
			path, link := append(pathOf(leaves, i), r.hashes(5)...), append(linkOf(leaves, i+1), r.hashes(5)...)
			pathBefore, linkBefore := slices.Clone(path), slices.Clone(link)
			if !merkle.Verify(root, leaves[i], i, n, path[:len(path)-5]) || !merkle.Extends(rootOf(leaves[:i+1]), root, i+1, n, link[:len(link)-5]) {
				t.Errorf("leaf %d of %d: false", i, n)
			}
			if !same(path, pathBefore) || !same(link, linkBefore) {
				t.Errorf("leaf %d of %d: %v has become %v, or %v %v", i, n, pathBefore, path, linkBefore, link)
			}
		}
	}
}

// R3: strings with room behind them
func TestStringsStayUnchanged(t *testing.T) {
	var r random
	for _, n := range []int{0, 1, 2, 63, 64, 65, 200} {
		memory := r.bytes(n + 100)
		before := bytes.Clone(memory)
		if got := merkle.Leaf(memory[:n]); got != leafOf(before[:n]) {
			t.Errorf("the leaf of %v: %d", before[:n], got)
		}
		for _, size := range []int{-1, 0, 1, 2, 64, n - 1, n, n + 1, n + 100} {
			want := merkle.Blocks(bytes.Clone(before[:n]), size)
			got := merkle.Blocks(memory[:n], size)
			again := merkle.Blocks(memory[:n], size)
			again = again[:cap(again)]
			for i := range again {
				again[i] = ^again[i]
			}
			if !same(got, want) {
				t.Errorf("the blocks of %v in parts of %d bytes: %v instead of %v, or two results share memory", before[:n], size, got, want)
			}
		}
		if !bytes.Equal(memory, before) {
			t.Errorf("%v has become %v", before, memory)
		}
	}
}
