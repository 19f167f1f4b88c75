package merkle_test

import (
	"math"
	"slices"
	"testing"

	"tapearchive/merkle"
)

// checkExtends checks what Extends reports, and that this is want.
func checkExtends(t *testing.T, old, root uint64, m, n int, proof []uint64, want bool) {
	t.Helper()
	if extended(old, root, m, n, proof) != want {
		t.Fatalf("%s, from %d to %d: the test expects %t, but its own check does not", name(m, n, proof), old, root, want)
	}
	if got := merkle.Extends(old, root, m, n, proof); got != want {
		t.Errorf("%s, from %d to %d: %t", name(m, n, proof), old, root, got)
	}
}

// compareExtends checks that Extends reports what it must.
func compareExtends(t *testing.T, old, root uint64, m, n int, proof []uint64) {
	t.Helper()
	checkExtends(t, old, root, m, n, proof, extended(old, root, m, n, proof))
}

// P7.6, with the examples of the chapter
func TestPrefixOfFewLeaves(t *testing.T) {
	n := merkle.Node
	const a, b, c, d, e, f, g = 11, 22, 33, 44, 55, 66, 77
	for _, x := range []struct {
		leaves []uint64
		links  [][]uint64 // for m from 1 on
	}{
		{[]uint64{a}, [][]uint64{nil}},
		{[]uint64{a, b}, [][]uint64{{b}, nil}},
		{[]uint64{a, b, c}, [][]uint64{{b, c}, {c}, nil}},
		{[]uint64{a, b, c, d}, [][]uint64{{b, n(c, d)}, {n(c, d)}, {c, d, n(a, b)}, nil}},
		{[]uint64{a, b, c, d, e}, [][]uint64{{b, n(c, d), e}, {n(c, d), e}, {c, d, n(a, b), e}, {e}, nil}},
		{[]uint64{a, b, c, d, e, f}, [][]uint64{{b, n(c, d), n(e, f)}, {n(c, d), n(e, f)}, {c, d, n(a, b), n(e, f)}, {n(e, f)}, {e, f, n(n(a, b), n(c, d))}, nil}},
		{[]uint64{a, b, c, d, e, f, g}, [][]uint64{
			{b, n(c, d), n(n(e, f), g)}, {n(c, d), n(n(e, f), g)}, {c, d, n(a, b), n(n(e, f), g)}, {n(n(e, f), g)},
			{e, f, g, n(n(a, b), n(c, d))}, {n(e, f), g, n(n(a, b), n(c, d))}, nil,
		}},
	} {
		for i, want := range x.links {
			if got, ok := merkle.Prefix(x.leaves, i+1); !same(got, want) || !ok {
				t.Errorf("the first %d of %v: %v %t instead of %v", i+1, x.leaves, got, ok, want)
			}
		}
	}
}

// P7.6: all beginnings of trees of many sizes
func TestPrefixFollowsDefinition(t *testing.T) {
	var r random
	for _, n := range append(sizes(700), 30001) {
		leaves := r.hashes(n)
		list := append(within(n)[1:], n)
		if n <= 200 {
			list = list[:0]
			for i := range n {
				list = append(list, i+1)
			}
		}
		for _, m := range list {
			if got, ok := merkle.Prefix(leaves, m); !same(got, linkOf(leaves, m)) || !ok {
				t.Errorf("the first %d of %d: %v %t instead of %v", m, n, got, ok, linkOf(leaves, m))
			}
		}
	}
}

// P7.6: beginnings that there are not
func TestPrefixOfNoLength(t *testing.T) {
	var r random
	for _, leaves := range [][]uint64{nil, {}, {7}, []uint64{7}[:0], {0, 0}, r.hashes(3), r.hashes(4), r.hashes(5), r.hashes(64), r.hashes(64)[:33]} {
		for _, m := range append(outside(len(leaves)), 0) {
			if got, ok := merkle.Prefix(leaves, m); len(got) != 0 || ok {
				t.Errorf("the first %d of %d: %v %t", m, len(leaves), got, ok)
			}
		}
	}
}

// P7.7: m = n, with the proof empty and not
func TestExtendsWhole(t *testing.T) {
	var r random
	for _, n := range []int{1, 2, 3, 4, 5, 7, 8, 9, 64, 1 << 32, 1<<32 + 1, 1 << 62, math.MaxInt - 1, math.MaxInt} {
		for _, h := range []uint64{0, 1, r.number(), math.MaxUint64} {
			checkExtends(t, h, h, n, n, nil, true)
			checkExtends(t, h, h, n, n, []uint64{}, true)
			checkExtends(t, h, h+1, n, n, nil, false)
			checkExtends(t, h+1, h, n, n, nil, false)
			checkExtends(t, h, h, n, n, []uint64{h}, false)
			checkExtends(t, h, h, n, n, []uint64{0}, false)
			checkExtends(t, h, h, n, n, []uint64{h, h}, false)
			checkExtends(t, h, h, n, n, slices.Repeat([]uint64{h}, 63), false)
		}
	}
}

// P7.7: trees of two to five leaves, whose links are written down, with example 2
func TestExtendsFewLeaves(t *testing.T) {
	n := merkle.Node
	const a, b, c, d, e = 11, 22, 33, 44, 55
	four := n(n(a, b), n(c, d))
	for _, x := range []struct {
		old, root uint64
		m, n      int
		proof     []uint64
		want      bool
	}{
		{n(a, b), n(n(a, b), c), 2, 3, []uint64{c}, true},
		{a, n(a, b), 1, 2, []uint64{b}, true}, {b, n(a, b), 1, 2, []uint64{a}, false}, {a, n(b, a), 1, 2, []uint64{b}, false}, {a, n(a, b), 1, 2, nil, false}, {a, a, 1, 2, nil, false}, {a, n(a, b), 1, 2, []uint64{a, b}, false}, {a, n(a, b), 1, 2, []uint64{b, b}, false},
		{a, n(n(a, b), c), 1, 3, []uint64{b, c}, true}, {a, n(n(a, b), c), 1, 3, []uint64{c, b}, false}, {n(a, b), n(n(a, b), c), 2, 3, []uint64{b, c}, false}, {n(b, a), n(n(a, b), c), 2, 3, []uint64{c}, false}, {n(a, b), n(c, n(a, b)), 2, 3, []uint64{c}, false},
		{n(n(a, b), c), four, 3, 4, []uint64{c, d, n(a, b)}, true}, {n(n(a, b), c), four, 3, 4, []uint64{d, c, n(a, b)}, false}, {n(n(a, b), c), four, 3, 4, []uint64{d, n(a, b)}, false}, {n(n(a, b), c), four, 3, 4, []uint64{n(c, d), n(a, b)}, false}, {n(n(a, b), c), four, 3, 4, []uint64{n(a, b)}, false},
		{n(n(a, b), c), n(n(a, b), n(c, e)), 3, 4, []uint64{c, d, n(a, b)}, false}, {n(n(a, b), d), four, 3, 4, []uint64{c, d, n(a, b)}, false}, {n(n(a, c), c), four, 3, 4, []uint64{c, d, n(a, b)}, false},
		{n(n(a, b), c), n(four, e), 3, 5, []uint64{c, d, n(a, b), e}, true}, {four, n(four, e), 4, 5, []uint64{e}, true}, {four, n(four, e), 4, 5, nil, false}, {four, n(four, e), 4, 5, []uint64{four, e}, false},
		{n(four, e), n(four, n(e, a)), 5, 6, []uint64{e, a, four}, true}, {n(four, e), n(four, n(e, a)), 5, 6, []uint64{a, four}, false}, {n(four, e), n(n(four, e), a), 5, 6, []uint64{a}, false},
	} {
		checkExtends(t, x.old, x.root, x.m, x.n, x.proof, x.want)
	}
}

// P7.7: m and n that are no beginning of a tree, whatever the proof is
func TestExtendsNumbers(t *testing.T) {
	var r random
	numbers := []int{math.MinInt, math.MinInt + 1, -1 << 32, -3, -2, -1, 0, 1, 2, 3, 4, 1 << 32, 1 << 62, 1<<62 + 1, math.MaxInt - 1, math.MaxInt}
	for _, m := range numbers {
		for _, n := range numbers {
			for length := range 67 {
				proof := r.hashes(length)
				if m >= 1 && m <= n {
					compareExtends(t, 5, 5, m, n, proof)
					// Not even as if what a proof lacks were 0.
					compareExtends(t, 0, 0, m, n, proof)
					continue
				}
				checkExtends(t, 5, 5, m, n, proof, false)
				for _, root := range []uint64{0, firstOf(proof), rootOf(nil)} {
					checkExtends(t, root, root, m, n, proof, false)
				}
			}
		}
	}
}

// checkAlteredLink checks Extends with a proof that is valid, and with all kinds of changes of the arguments.
func checkAlteredLink(t *testing.T, old, root uint64, m, n int, proof []uint64) {
	t.Helper()
	checkExtends(t, old, root, m, n, proof, true)
	for _, other := range []uint64{0, old + 1, old ^ 1<<63, ^old, root, firstOf(proof)} {
		compareExtends(t, other, root, m, n, proof)
		// That with what results from it shows whether the old root counts by itself.
		if _, after, ok := climbBoth(other, m, n, proof); ok {
			compareExtends(t, other, after, m, n, proof)
		}
	}
	for _, other := range []uint64{0, root + 1, root ^ 1<<63, root ^ 1<<32, ^root, old} {
		compareExtends(t, old, other, m, n, proof)
	}
	for _, other := range changed(proof) {
		compareExtends(t, old, root, m, n, other)
		if before, after, ok := climbBoth(old, m, n, other); ok {
			checkExtends(t, before, after, m, n, other, true)
			compareExtends(t, old, after, m, n, other)
			compareExtends(t, before, root, m, n, other)
		}
	}
	for _, other := range append(outside(m), 0, 1, m-1, m+1, m+2, m/2, m^1, m^2, n-1, n) {
		compareExtends(t, old, root, other, n, proof)
	}
	for _, other := range append(outside(n), 0, 1, n-1, n+1, n/2, 2*(n/2), m, m+1, m+2) {
		compareExtends(t, old, root, m, other, proof)
	}
}

// P7.7: the links of small trees, also with m the split, one less and one more, and each part of the arguments changed
func TestExtendsAltered(t *testing.T) {
	var r random
	for _, n := range sizes(140) {
		leaves := r.hashes(n)
		for _, m := range append(within(n)[1:], n) {
			checkAlteredLink(t, rootOf(leaves[:m]), rootOf(leaves), m, n, linkOf(leaves, m))
		}
	}
}

// P7.7: all m and n up to some, with all lengths of proofs, such that only one of them is accepted
func TestExtendsLengths(t *testing.T) {
	var r random
	for n := 1; n <= 70; n++ {
		leaves := r.hashes(n)
		for m := 1; m <= n; m++ {
			length := len(linkOf(leaves, m))
			proof := r.hashes(11)
			for k := range 12 {
				before, after := firstOf(proof), firstOf(proof)
				if k == length {
					before, after, _ = climbBoth(firstOf(proof), m, n, proof[:k])
				}
				checkExtends(t, before, after, m, n, proof[:k], k == length)
			}
		}
	}
}

// linkFor returns the two roots and a link for the first m of n leaves, of any hashes.
func (r *random) linkFor(m, n int) (before, after uint64, proof []uint64) {
	old := r.number()
	all := r.hashes(70)
	for k := range all {
		if before, after, ok := climbBoth(old, m, n, all[:k]); ok {
			return before, after, all[:k:k]
		}
	}
	return 0, 0, nil
}

// P7.7: trees with more leaves than any list has. By the definition a link for them may have 64 elements.
func TestExtendsGreatTrees(t *testing.T) {
	var r random
	longest := 0
	for _, n := range great() {
		for _, m := range append(within(n)[1:], n) {
			before, after, proof := r.linkFor(m, n)
			longest = max(longest, len(proof))
			checkExtends(t, before, after, m, n, proof, true)
			checkExtends(t, before, after+1, m, n, proof, false)
			checkExtends(t, before+1, after, m, n, proof, false)
			if len(proof) > 0 {
				checkExtends(t, before, after, m, n, proof[1:], false)
				checkExtends(t, before, after, m, n, proof[:len(proof)-1], false)
			}
			checkExtends(t, before, after, m, n, append(proof, 0), false)
			for _, other := range []int{m - 1, m + 1, m ^ 1<<31, n - m} {
				compareExtends(t, before, after, other, n, proof)
			}
			for _, other := range []int{n - 1, n/2 + 1, n - 1<<30, math.MaxInt} {
				compareExtends(t, before, after, m, other, proof)
			}
		}
	}
	if longest != 64 {
		t.Errorf("the longest link has %d elements", longest)
	}
}

// P7.7: some great trees with each part of the arguments changed
func TestExtendsAlteredGreatTrees(t *testing.T) {
	var r random
	for _, c := range [][2]int{{1, math.MaxInt}, {3, math.MaxInt}, {math.MaxInt - 1, math.MaxInt}, {1 << 62, math.MaxInt}, {1<<62 + 1, math.MaxInt}, {1<<62 - 1, math.MaxInt}, {3, 1<<62 + 1}, {1<<62 - 1, 1 << 62}, {12345678901, 98765432109}} {
		before, after, proof := r.linkFor(c[0], c[1])
		checkAlteredLink(t, before, after, c[0], c[1], proof)
	}
}

// R1: proofs that are much too long
func TestExtendsLongProofs(t *testing.T) {
	proof := slices.Repeat([]uint64{3}, 1<<20)
	for _, n := range []int{1, 2, 3, 1 << 20, 1 << 40, math.MaxInt} {
		for _, length := range []int{65, 66, 1000, 1<<20 - 1, 1 << 20} {
			checkExtends(t, 3, 3, n, n, proof[:length], false)
			checkExtends(t, 3, 3, 1, n, proof[:length], false)
			checkExtends(t, 3, 3, n/2+1, n, proof[:length], false)
		}
	}
}
