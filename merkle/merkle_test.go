package merkle_test

import (
	"bytes"
	"math"
	"slices"
	"testing"

	"tapearchive/merkle"
)

// P7.1: known hashes
func TestLeafKnownHashes(t *testing.T) {
	for _, c := range []struct {
		b    []byte
		want uint64
	}{
		{nil, 12638153115695167455}, {[]byte{}, 12638153115695167455},
		{[]byte{0}, 0x8328807b4eb6fed}, {[]byte("a"), 0x8326707b4eb37da}, {[]byte("foobar"), 0x50a6d3b724a774a6},
	} {
		if got := merkle.Leaf(c.b); got != c.want {
			t.Errorf("the leaf of %q: %d instead of %d", c.b, got, c.want)
		}
	}
}

// P7.1: all lengths up to some blocks, each byte alone, and long strings
func TestLeafFollowsDefinition(t *testing.T) {
	var r random
	list := [][]byte{nil, {}, make([]byte, 1<<16), bytes.Repeat([]byte{255}, 1<<16), r.bytes(1<<20 + 1)}
	for n := range 300 {
		list = append(list, r.bytes(n), make([]byte, n))
	}
	for x := range 256 {
		list = append(list, []byte{byte(x)}, []byte{byte(x), 0}, []byte{0, byte(x)})
	}
	for _, b := range list {
		if got, want := merkle.Leaf(b), leafOf(b); got != want {
			t.Errorf("the leaf of %d bytes, %.40q: %d instead of %d", len(b), b, got, want)
		}
	}
}

// P7.1: 0, the greatest numbers, each bit alone, and both in both orders
func TestNodeFollowsDefinition(t *testing.T) {
	var r random
	numbers := []uint64{0, 1, 255, 256, 0x0102030405060708, 0xFFFFFFFF, 1 << 32, math.MaxInt64, 1 << 63, math.MaxUint64 - 1, math.MaxUint64}
	for shift := range 64 {
		numbers = append(numbers, 1<<shift)
	}
	numbers = append(numbers, r.hashes(20)...)
	for _, a := range numbers {
		for _, b := range numbers {
			if got, want := merkle.Node(a, b), nodeOf(a, b); got != want {
				t.Errorf("the node of %d and %d: %d instead of %d", a, b, got, want)
			}
		}
	}
}

// P7.1: known hashes; a node of zeros is not the leaf of 16 zeros, and the order of both counts.
func TestNodeKnownHashes(t *testing.T) {
	for _, c := range []struct{ a, b, want uint64 }{
		{7, 0x0102030405060708, 10852842709363731729}, {0, 0, 0xff230907651f612c}, {1, 2, 0x928d6064f9ba5aa5}, {2, 1, 0x25f7b4c28e554f05}, {math.MaxUint64, math.MaxUint64, 0xee46e92545ccb71c},
	} {
		if got := merkle.Node(c.a, c.b); got != c.want {
			t.Errorf("the node of %d and %d: %#x instead of %#x", c.a, c.b, got, c.want)
		}
	}
	if zeros := merkle.Leaf(make([]byte, 16)); merkle.Node(0, 0) == zeros {
		t.Error("the node of 0 and 0 is the leaf of 16 zeros")
	}
}

// P7.2, with the example of the chapter, and example 1
func TestRootOfFewLeaves(t *testing.T) {
	n := merkle.Node
	const a, b, c, d, e, f, g, h, i = 11, 22, 33, 44, 55, 66, 77, 88, 99
	for _, x := range []struct {
		leaves []uint64
		want   uint64
	}{
		{nil, 14695981039346656037}, {[]uint64{}, 14695981039346656037},
		{[]uint64{a}, a}, {[]uint64{0}, 0}, {[]uint64{math.MaxUint64}, math.MaxUint64},
		{[]uint64{a, b}, n(a, b)}, {[]uint64{b, a}, n(b, a)}, {[]uint64{a, a}, n(a, a)}, {[]uint64{0, 0}, n(0, 0)},
		{[]uint64{a, b, c}, n(n(a, b), c)},
		{[]uint64{a, b, c, d}, n(n(a, b), n(c, d))},
		{[]uint64{a, b, c, d, e}, n(n(n(a, b), n(c, d)), e)},
		{[]uint64{a, b, c, d, e, f}, n(n(n(a, b), n(c, d)), n(e, f))},
		{[]uint64{a, b, c, d, e, f, g}, n(n(n(a, b), n(c, d)), n(n(e, f), g))},
		{[]uint64{a, b, c, d, e, f, g, h}, n(n(n(a, b), n(c, d)), n(n(e, f), n(g, h)))},
		{[]uint64{a, b, c, d, e, f, g, h, i}, n(n(n(n(a, b), n(c, d)), n(n(e, f), n(g, h))), i)},
	} {
		if got := merkle.Root(x.leaves); got != x.want {
			t.Errorf("the root over %v: %d instead of %d", x.leaves, got, x.want)
		}
	}
}

// P7.2: trees of many sizes, also with equal leaves
func TestRootFollowsDefinition(t *testing.T) {
	var r random
	for _, n := range append(sizes(5000), 100000, 1<<17-1, 1<<17, 1<<17+1) {
		for _, leaves := range [][]uint64{r.hashes(n), make([]uint64, n), slices.Repeat([]uint64{r.number()}, n)} {
			if got, want := merkle.Root(leaves), rootOf(leaves); got != want {
				t.Errorf("the root over %d leaves: %d instead of %d", n, got, want)
			}
		}
	}
}

// P7.2: each leaf counts, and the place where it is.
func TestRootOfChangedLeaves(t *testing.T) {
	var r random
	for n := 1; n <= 33; n++ {
		leaves := r.hashes(n)
		for i := range n {
			other := slices.Clone(leaves)
			other[i] ^= 1 << r.below(64)
			if got, want := merkle.Root(other), rootOf(other); got != want || got == merkle.Root(leaves) {
				t.Errorf("the root over %v: %d instead of %d", other, got, want)
			}
			other = slices.Clone(leaves)
			other[i], other[n-1-i] = other[n-1-i], other[i]
			if got, want := merkle.Root(other), rootOf(other); got != want {
				t.Errorf("the root over %v: %d instead of %d", other, got, want)
			}
		}
	}
}

// P7.3
func TestBlocksOfFewBytes(t *testing.T) {
	l := func(texts ...string) []uint64 {
		var list []uint64
		for _, text := range texts {
			list = append(list, leafOf([]byte(text)))
		}
		return list
	}
	for _, c := range []struct {
		b    string
		size int
		want []uint64
	}{
		{"abcde", 1, l("a", "b", "c", "d", "e")}, {"abcde", 2, l("ab", "cd", "e")}, {"abcde", 3, l("abc", "de")}, {"abcde", 4, l("abcd", "e")},
		{"abcde", 5, l("abcde")}, {"abcde", 6, l("abcde")}, {"abcde", math.MaxInt, l("abcde")}, {"abcde", math.MaxInt - 1, l("abcde")}, {"abcde", 1 << 62, l("abcde")}, {"abcde", 1 << 32, l("abcde")},
		{"abcdef", 2, l("ab", "cd", "ef")}, {"abcdef", 3, l("abc", "def")}, {"abcdef", 6, l("abcdef")},
		{"a", 1, l("a")}, {"a", 2, l("a")}, {"\x00\x00\x00", 2, l("\x00\x00", "\x00")}, {"abab", 2, l("ab", "ab")},
		{"abc", 0, nil}, {"abc", -1, nil}, {"abc", -3, nil}, {"abc", math.MinInt, nil}, {"abc", math.MinInt + 1, nil}, {"abc", -1 << 32, nil}, {"abc", 1 - 1<<32, nil},
	} {
		if got := merkle.Blocks([]byte(c.b), c.size); !same(got, c.want) {
			t.Errorf("the blocks of %q in parts of %d bytes: %v instead of %v", c.b, c.size, got, c.want)
		}
	}
}

// P7.3: none of no bytes, for all sizes
func TestBlocksOfNoBytes(t *testing.T) {
	for _, b := range [][]byte{nil, {}, []byte("abc")[:0]} {
		for _, size := range append(outside(0), 0, 1, 2, 64) {
			if got := merkle.Blocks(b, size); len(got) != 0 {
				t.Errorf("the blocks of no bytes in parts of %d: %v", size, got)
			}
		}
	}
}

// blocksOf returns the leaves of b by counting its bytes.
func blocksOf(b []byte, size int) []uint64 {
	var leaves []uint64
	var part []byte
	for i, x := range b {
		part = append(part, x)
		if len(part) == size || i == len(b)-1 {
			leaves = append(leaves, leafOf(part))
			part = nil
		}
	}
	return leaves
}

// P7.3: all lengths and sizes up to two blocks, and long strings
func TestBlocksFollowDefinition(t *testing.T) {
	var r random
	check := func(length, size int) {
		b := r.bytes(length)
		got, want := merkle.Blocks(b, size), blocksOf(b, size)
		if number := (length + size - 1) / size; !same(got, want) || len(got) != number {
			t.Errorf("the blocks of %d bytes in parts of %d: %v instead of %v", length, size, got, want)
		}
	}
	for length := range 131 {
		for size := 1; size <= 131; size++ {
			check(length, size)
		}
	}
	for _, length := range []int{4095, 4096, 4097, 1 << 18} {
		for _, size := range []int{1, 63, 64, 65, length - 1, length, length + 1} {
			check(length, size)
		}
	}
}
