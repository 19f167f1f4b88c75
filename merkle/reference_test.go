package merkle_test

import (
	"encoding/binary"
	"fmt"
	"hash/fnv"
	"math"
	"math/bits"
	"slices"
)

// What the functions must return, computed in other ways than by the recursive definitions: hashes by the standard library, roots and proofs level by level from the leaves upwards, and checks of proofs by the bits of the numbers of the nodes.

// random is a sequence of numbers that is the same in each run.
type random uint64

// number returns the next number, of 64 bits.
func (r *random) number() uint64 {
	*r = *r*6364136223846793005 + 1442695040888963407
	x := uint64(*r)
	return (x ^ x>>33) * 0xFF51AFD7ED558CCD
}

// below returns the next number, from 0 to n - 1.
func (r *random) below(n int) int { return int(r.number() >> 1 % uint64(n)) }

// hashes returns n hashes.
func (r *random) hashes(n int) []uint64 {
	list := make([]uint64, n)
	for i := range list {
		list[i] = r.number()
	}
	return list
}

// bytes returns n bytes.
func (r *random) bytes(n int) []byte {
	b := make([]byte, n)
	for i := range b {
		b[i] = byte(r.number() >> 40)
	}
	return b
}

// hashOf returns the hash of the parts one behind the other.
func hashOf(parts ...[]byte) uint64 {
	h := fnv.New64a()
	for _, part := range parts {
		h.Write(part)
	}
	return h.Sum64()
}

// leafOf returns the hash of a block.
func leafOf(b []byte) uint64 { return hashOf([]byte{0}, b) }

// nodeOf returns the hash of two hashes.
func nodeOf(a, b uint64) uint64 {
	return hashOf(binary.BigEndian.AppendUint64(binary.BigEndian.AppendUint64([]byte{1}, a), b))
}

// levels returns the nodes of a tree with at least one leaf: first the leaves, at last the root alone. A node that has none beside it belongs to the next level, too.
func levels(leaves []uint64) [][]uint64 {
	list := [][]uint64{leaves}
	for len(leaves) > 1 {
		var above []uint64
		for i := 0; i < len(leaves); i += 2 {
			if i+1 < len(leaves) {
				above = append(above, nodeOf(leaves[i], leaves[i+1]))
			} else {
				above = append(above, leaves[i])
			}
		}
		list = append(list, above)
		leaves = above
	}
	return list
}

// rootOf returns the root over leaves.
func rootOf(leaves []uint64) uint64 {
	if len(leaves) == 0 {
		return hashOf()
	}
	list := levels(leaves)
	return list[len(list)-1][0]
}

// beside returns the nodes beside those on the way from node i of a level to the root, in the levels from this one on.
func beside(list [][]uint64, i int) []uint64 {
	var nodes []uint64
	for _, level := range list {
		if other := i ^ 1; other < len(level) {
			nodes = append(nodes, level[other])
		}
		i /= 2
	}
	return nodes
}

// pathOf returns the path to leaf i.
func pathOf(leaves []uint64, i int) []uint64 { return beside(levels(leaves), i) }

// linkOf returns the link of the first m leaves: the greatest part of the tree that they end with, unless it is all of them, and the nodes beside the way from it to the root.
func linkOf(leaves []uint64, m int) []uint64 {
	if m == len(leaves) {
		return nil
	}
	list := levels(leaves)
	i := m - 1
	for i&1 == 1 {
		i, list = i/2, list[1:]
	}
	if i == 0 {
		return beside(list, 0)
	}
	return append([]uint64{list[0][i]}, beside(list, i)...)
}

// climb returns the root that results for leaf i of n leaves, which must exist, and whether the proof has the right length.
func climb(leaf uint64, i, n int, proof []uint64) (uint64, bool) {
	last := n - 1
	for _, h := range proof {
		if last == 0 {
			return 0, false
		}
		for i&1 == 0 && i == last {
			i, last = i/2, last/2
		}
		if i&1 == 1 {
			leaf = nodeOf(h, leaf)
		} else {
			leaf = nodeOf(leaf, h)
		}
		i, last = i/2, last/2
	}
	return leaf, last == 0
}

// climbBoth returns the roots that result for the first m of n leaves and for all of them, where m is from 1 to n, and whether the proof has the right length.
func climbBoth(old uint64, m, n int, proof []uint64) (before, after uint64, ok bool) {
	if m == n {
		return old, old, len(proof) == 0
	}
	if bits.OnesCount(uint(m)) == 1 {
		proof = append([]uint64{old}, proof...)
	}
	if len(proof) == 0 {
		return 0, 0, false
	}
	i, last := m-1, n-1
	for i&1 == 1 {
		i, last = i/2, last/2
	}
	before, after = proof[0], proof[0]
	for _, h := range proof[1:] {
		if last == 0 {
			return 0, 0, false
		}
		for i&1 == 0 && i == last {
			i, last = i/2, last/2
		}
		if i&1 == 1 {
			before, after = nodeOf(h, before), nodeOf(h, after)
		} else {
			after = nodeOf(after, h)
		}
		i, last = i/2, last/2
	}
	return before, after, last == 0
}

// verified reports what Verify must report.
func verified(root, leaf uint64, i, n int, proof []uint64) bool {
	if i < 0 || i >= n {
		return false
	}
	result, ok := climb(leaf, i, n, proof)
	return ok && result == root
}

// extended reports what Extends must report.
func extended(old, root uint64, m, n int, proof []uint64) bool {
	if m < 1 || m > n {
		return false
	}
	before, after, ok := climbBoth(old, m, n, proof)
	return ok && before == old && after == root
}

// same reports whether two lists are equal; nil and empty ones are.
func same(a, b []uint64) bool { return slices.Equal(a, b) }

// sizes are the numbers of leaves of trees that are tried: all small ones, and those at powers of 2.
func sizes(most int) []int {
	var list []int
	for n := 1; n <= min(most, 40); n++ {
		list = append(list, n)
	}
	for power := 64; power < most; power *= 2 {
		list = append(list, power-1, power, power+1, power+power/2, power+power/2+1)
	}
	return list
}

// outside are numbers that are neither numbers of leaves nor of a tree with n leaves.
func outside(n int) []int {
	return []int{math.MinInt, math.MinInt + 1, math.MinInt + n, -1 << 32, -1<<32 + n, -256, -n - 1, -2, -1, n + 1, n + 2, 2*n + 1, n + 256, 1<<32 + n, 1<<62 + 1, math.MaxInt - 1, math.MaxInt}
}

// great are numbers of leaves that no list has.
func great() []int {
	var list []int
	for shift := 30; shift < 63; shift += 4 {
		list = append(list, 1<<shift-1, 1<<shift, 1<<shift+1, 1<<shift+1<<(shift/2))
	}
	return append(list, math.MaxInt-2, math.MaxInt-1, math.MaxInt)
}

// splitOf returns the greatest power of 2 that is less than n, which is at least 2.
func splitOf(n int) int {
	k := 1
	for k < n-k {
		k *= 2
	}
	return k
}

// within returns some of the numbers from 0 to n - 1: those at the ends, and those at the split of the tree, of the leaves behind it, and so on.
func within(n int) []int {
	list := []int{0, 1, 2, 3, 4, 7, n / 3, n / 2, n/2 + 1, n - n/5, n - 4, n - 3, n - 2, n - 1}
	for at := 0; n-at > 1 && len(list) < 60; {
		k := splitOf(n - at)
		at += k
		list = append(list, k-1, k, k+1, at-1, at, at+1)
	}
	list = slices.DeleteFunc(list, func(i int) bool { return i < 0 || i >= n })
	slices.Sort(list)
	return slices.Compact(list)
}

// changed returns other proofs: with an element changed, left out, written twice, or exchanged with one of the four before it, and with one more.
func changed(proof []uint64) [][]uint64 {
	list := [][]uint64{nil, {}, append([]uint64{0}, proof...), append(slices.Clone(proof), 0), slices.Concat(proof, proof)}
	for i, h := range proof {
		list = append(list, slices.Delete(slices.Clone(proof), i, i+1), slices.Insert(slices.Clone(proof), i, h), proof[:i], proof[i:])
		for _, other := range []uint64{0, h + 1, h ^ 1<<63, ^h, bits.ReverseBytes64(h)} {
			copied := slices.Clone(proof)
			copied[i] = other
			list = append(list, copied)
		}
		for k := max(0, i-4); k < i; k++ {
			copied := slices.Clone(proof)
			copied[i], copied[k] = copied[k], copied[i]
			list = append(list, copied)
		}
	}
	return list
}

// name names a case in a message.
func name(i, n int, proof []uint64) string {
	return fmt.Sprintf("%d of %d with the %d elements %v", i, n, len(proof), proof)
}
