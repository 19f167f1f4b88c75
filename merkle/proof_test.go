package merkle_test

import (
	"math"
	"slices"
	"testing"

	"tapearchive/merkle"
)

// checkVerify checks what Verify reports, and that this is want.
func checkVerify(t *testing.T, root, leaf uint64, i, n int, proof []uint64, want bool) {
	t.Helper()
	if verified(root, leaf, i, n, proof) != want {
		t.Fatalf("%s, the leaf %d and the root %d: the test expects %t, but its own check does not", name(i, n, proof), leaf, root, want)
	}
	if got := merkle.Verify(root, leaf, i, n, proof); got != want {
		t.Errorf("%s, the leaf %d and the root %d: %t", name(i, n, proof), leaf, root, got)
	}
}

// compareVerify checks that Verify reports what it must.
func compareVerify(t *testing.T, root, leaf uint64, i, n int, proof []uint64) {
	t.Helper()
	checkVerify(t, root, leaf, i, n, proof, verified(root, leaf, i, n, proof))
}

// P7.4, with the examples of the chapter
func TestProofOfFewLeaves(t *testing.T) {
	n := merkle.Node
	const a, b, c, d, e, f, g = 11, 22, 33, 44, 55, 66, 77
	for _, x := range []struct {
		leaves []uint64
		paths  [][]uint64
	}{
		{[]uint64{a}, [][]uint64{nil}},
		{[]uint64{a, b}, [][]uint64{{b}, {a}}},
		{[]uint64{a, a}, [][]uint64{{a}, {a}}},
		{[]uint64{a, b, c}, [][]uint64{{b, c}, {a, c}, {n(a, b)}}},
		{[]uint64{a, b, c, d}, [][]uint64{{b, n(c, d)}, {a, n(c, d)}, {d, n(a, b)}, {c, n(a, b)}}},
		{[]uint64{a, b, c, d, e}, [][]uint64{{b, n(c, d), e}, {a, n(c, d), e}, {d, n(a, b), e}, {c, n(a, b), e}, {n(n(a, b), n(c, d))}}},
		{[]uint64{a, b, c, d, e, f, g}, [][]uint64{
			{b, n(c, d), n(n(e, f), g)}, {a, n(c, d), n(n(e, f), g)}, {d, n(a, b), n(n(e, f), g)}, {c, n(a, b), n(n(e, f), g)},
			{f, g, n(n(a, b), n(c, d))}, {e, g, n(n(a, b), n(c, d))}, {n(e, f), n(n(a, b), n(c, d))},
		}},
	} {
		for i, want := range x.paths {
			if got, ok := merkle.Proof(x.leaves, i); !same(got, want) || !ok {
				t.Errorf("leaf %d of %v: %v %t instead of %v", i, x.leaves, got, ok, want)
			}
		}
	}
}

// P7.4: all leaves of trees of many sizes
func TestProofFollowsDefinition(t *testing.T) {
	var r random
	for _, n := range append(sizes(700), 30001) {
		leaves := r.hashes(n)
		list := within(n)
		if n <= 200 {
			list = list[:0]
			for i := range n {
				list = append(list, i)
			}
		}
		for _, i := range list {
			if got, ok := merkle.Proof(leaves, i); !same(got, pathOf(leaves, i)) || !ok {
				t.Errorf("leaf %d of %d: %v %t instead of %v", i, n, got, ok, pathOf(leaves, i))
			}
		}
	}
}

// P7.4: leaves that there are not
func TestProofOfNoLeaf(t *testing.T) {
	var r random
	for _, leaves := range [][]uint64{nil, {}, {7}, []uint64{7}[:0], {0, 0}, r.hashes(3), r.hashes(4), r.hashes(5), r.hashes(64), r.hashes(64)[:33]} {
		for _, i := range append(outside(len(leaves)), len(leaves)) {
			if got, ok := merkle.Proof(leaves, i); len(got) != 0 || ok {
				t.Errorf("leaf %d of %d: %v %t", i, len(leaves), got, ok)
			}
		}
	}
	for _, leaves := range [][]uint64{nil, {}} {
		for _, i := range []int{0, 1} {
			if got, ok := merkle.Proof(leaves, i); len(got) != 0 || ok {
				t.Errorf("leaf %d of none: %v %t", i, got, ok)
			}
		}
	}
}

// P7.5: trees of one leaf
func TestVerifyOneLeaf(t *testing.T) {
	for _, h := range []uint64{0, 1, 14695981039346656037, math.MaxUint64} {
		checkVerify(t, h, h, 0, 1, nil, true)
		checkVerify(t, h, h, 0, 1, []uint64{}, true)
		checkVerify(t, h, h+1, 0, 1, nil, false)
		checkVerify(t, h+1, h, 0, 1, nil, false)
		checkVerify(t, h, h, 0, 1, []uint64{h}, false)
		checkVerify(t, h, h, 0, 1, []uint64{0, 0}, false)
		checkVerify(t, h, h, 0, 0, nil, false)
		checkVerify(t, h, h, 1, 1, nil, false)
		checkVerify(t, h, h, -1, 1, nil, false)
		checkVerify(t, h, h, -1, 0, nil, false)
		checkVerify(t, h, h, -1, -1, nil, false)
		checkVerify(t, h, h, -2, -1, nil, false)
		checkVerify(t, h, h, 0, 2, nil, false)
		checkVerify(t, h, h, 1, 2, nil, false)
	}
}

// P7.5: trees of two to five leaves, whose proofs are written down
func TestVerifyFewLeaves(t *testing.T) {
	n := merkle.Node
	const a, b, c, d, e = 11, 22, 33, 44, 55
	for _, x := range []struct {
		root, leaf uint64
		i, n       int
		proof      []uint64
		want       bool
	}{
		{n(a, b), a, 0, 2, []uint64{b}, true}, {n(a, b), b, 1, 2, []uint64{a}, true}, {n(a, b), a, 1, 2, []uint64{b}, false}, {n(a, b), b, 0, 2, []uint64{a}, false},
		{n(a, a), a, 0, 2, []uint64{a}, true}, {n(a, a), a, 1, 2, []uint64{a}, true}, {n(a, a), a, 2, 2, []uint64{a}, false}, {n(a, a), a, 2, 3, []uint64{a}, true},
		{n(n(a, b), c), a, 0, 3, []uint64{b, c}, true}, {n(n(a, b), c), b, 1, 3, []uint64{a, c}, true}, {n(n(a, b), c), c, 2, 3, []uint64{n(a, b)}, true},
		{n(n(a, b), c), a, 0, 3, []uint64{c, b}, false}, {n(n(a, b), c), a, 0, 3, []uint64{b}, false}, {n(n(a, b), c), c, 2, 3, []uint64{b, a}, false},
		{n(a, n(b, c)), c, 2, 3, []uint64{b, a}, false}, {n(a, n(b, c)), a, 0, 3, []uint64{n(b, c)}, false},
		// The same proof is one for a tree of another shape where the way to the leaf is the same.
		{n(n(a, b), c), a, 0, 4, []uint64{b, c}, true}, {n(n(a, b), c), c, 2, 4, []uint64{n(a, b)}, false}, {n(n(a, b), c), c, 1, 2, []uint64{n(a, b)}, true},
		{n(n(a, b), n(c, d)), a, 0, 4, []uint64{b, n(c, d)}, true}, {n(n(a, b), n(c, d)), d, 3, 4, []uint64{c, n(a, b)}, true}, {n(n(a, b), n(c, d)), d, 3, 4, []uint64{n(a, b), c}, false},
		{n(n(n(a, b), n(c, d)), e), d, 3, 5, []uint64{c, n(a, b), e}, true}, {n(n(n(a, b), n(c, d)), e), e, 4, 5, []uint64{n(n(a, b), n(c, d))}, true}, {n(n(n(a, b), n(c, d)), e), d, 3, 8, []uint64{c, n(a, b), e}, true}, {n(n(n(a, b), n(c, d)), e), d, 3, 9, []uint64{c, n(a, b), e}, false},
	} {
		checkVerify(t, x.root, x.leaf, x.i, x.n, x.proof, x.want)
	}
}

// P7.5: i and n that are no leaf of a tree, whatever the proof is
func TestVerifyNumbers(t *testing.T) {
	var r random
	numbers := []int{math.MinInt, math.MinInt + 1, -1 << 32, -3, -2, -1, 0, 1, 2, 3, 4, 1 << 32, 1 << 62, 1<<62 + 1, math.MaxInt - 1, math.MaxInt}
	for _, i := range numbers {
		for _, n := range numbers {
			for length := range 66 {
				proof := r.hashes(length)
				if i >= 0 && i < n {
					compareVerify(t, firstOf(proof), 5, i, n, proof)
					continue
				}
				checkVerify(t, 5, 5, i, n, proof, false)
				for _, root := range []uint64{0, firstOf(proof), rootOf(nil)} {
					checkVerify(t, root, root, i, n, proof, false)
				}
			}
		}
	}
}

// firstOf returns the first element of a proof, or 0.
func firstOf(proof []uint64) uint64 {
	if len(proof) == 0 {
		return 0
	}
	return proof[0]
}

// checkAltered checks Verify with a proof that is valid, and with all kinds of changes of the arguments.
func checkAltered(t *testing.T, root, leaf uint64, i, n int, proof []uint64) {
	t.Helper()
	checkVerify(t, root, leaf, i, n, proof, true)
	for _, other := range []uint64{0, leaf + 1, leaf ^ 1<<63, ^leaf, root} {
		compareVerify(t, root, other, i, n, proof)
	}
	for _, other := range []uint64{0, root + 1, root ^ 1<<63, root ^ 1<<32, ^root, leaf} {
		compareVerify(t, other, leaf, i, n, proof)
	}
	for _, other := range changed(proof) {
		compareVerify(t, root, leaf, i, n, other)
		// That with what results from it as the root shows whether its length counts.
		if result, ok := climb(leaf, i, n, other); ok {
			checkVerify(t, result, leaf, i, n, other, true)
		}
	}
	for _, other := range append(outside(i), 0, 1, i-1, i+1, i+2, i/2, i^1, i^2, n-1, n) {
		compareVerify(t, root, leaf, other, n, proof)
	}
	for _, other := range append(outside(n), 0, 1, n-1, n+1, n/2, 2*(n/2), i, i+1, i+2) {
		compareVerify(t, root, leaf, i, other, proof)
	}
}

// P7.5: the proofs of small trees, with each part of the arguments changed
func TestVerifyAltered(t *testing.T) {
	var r random
	for _, n := range sizes(140) {
		leaves := r.hashes(n)
		for _, i := range within(n) {
			checkAltered(t, rootOf(leaves), leaves[i], i, n, pathOf(leaves, i))
		}
	}
}

// P7.5: all i and n up to some, with all lengths of proofs, such that only one of them is accepted
func TestVerifyLengths(t *testing.T) {
	var r random
	for n := 1; n <= 70; n++ {
		leaves := r.hashes(n)
		for i := range n {
			length := len(pathOf(leaves, i))
			proof := r.hashes(10)
			for k := range 11 {
				result := leaves[i]
				if k == length {
					result, _ = climb(leaves[i], i, n, proof[:k])
				}
				checkVerify(t, result, leaves[i], i, n, proof[:k], k == length)
			}
		}
	}
}

// proofFor returns a proof for leaf i of n leaves, of any hashes: the shortest one of the right length.
func (r *random) proofFor(leaf uint64, i, n int) []uint64 {
	proof := r.hashes(70)
	for k := range proof {
		if _, ok := climb(leaf, i, n, proof[:k]); ok {
			return proof[:k:k]
		}
	}
	return nil
}

// P7.5 and P7.8: trees with more leaves than any list has; their proofs have at most 63 elements.
func TestVerifyGreatTrees(t *testing.T) {
	var r random
	longest := 0
	for _, n := range great() {
		for _, i := range within(n) {
			leaf := r.number()
			proof := r.proofFor(leaf, i, n)
			longest = max(longest, len(proof))
			root, _ := climb(leaf, i, n, proof)
			checkVerify(t, root, leaf, i, n, proof, true)
			checkVerify(t, root+1, leaf, i, n, proof, false)
			checkVerify(t, root, leaf+1, i, n, proof, false)
			if len(proof) > 0 {
				checkVerify(t, root, leaf, i, n, proof[1:], false)
				checkVerify(t, root, leaf, i, n, proof[:len(proof)-1], false)
			}
			checkVerify(t, root, leaf, i, n, append(proof, 0), false)
			for _, other := range []int{i - 1, i + 1, i ^ 1<<31, n - 1 - i} {
				compareVerify(t, root, leaf, other, n, proof)
			}
			for _, other := range []int{n - 1, n/2 + 1, n - 1<<30, math.MaxInt} {
				compareVerify(t, root, leaf, i, other, proof)
			}
		}
	}
	if longest != 63 {
		t.Errorf("the longest proof has %d elements", longest)
	}
}

// P7.5: some great trees with each part of the arguments changed
func TestVerifyAlteredGreatTrees(t *testing.T) {
	var r random
	for _, c := range [][2]int{{0, math.MaxInt}, {math.MaxInt - 1, math.MaxInt}, {1 << 62, math.MaxInt}, {1<<62 - 1, 1 << 62}, {1 << 62, 1<<62 + 1}, {12345678901, 98765432109}} {
		leaf := r.number()
		proof := r.proofFor(leaf, c[0], c[1])
		root, _ := climb(leaf, c[0], c[1], proof)
		checkAltered(t, root, leaf, c[0], c[1], proof)
	}
}

// R1: proofs that are much too long
func TestVerifyLongProofs(t *testing.T) {
	proof := slices.Repeat([]uint64{3}, 1<<20)
	for _, n := range []int{1, 2, 3, 1 << 20, 1 << 40, math.MaxInt} {
		for _, length := range []int{64, 65, 1000, 1<<20 - 1, 1 << 20} {
			checkVerify(t, 3, 3, n-1, n, proof[:length], false)
			checkVerify(t, 3, 3, 0, n, proof[:length], false)
		}
	}
}
