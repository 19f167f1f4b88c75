package merkle_test

import (
	"testing"

	"tapearchive/merkle"
)

// checkLeaf checks that the proof of leaf i is verified, and that it has at most 63 elements.
func checkLeaf(t *testing.T, leaves []uint64, root uint64, i int) {
	t.Helper()
	proof, ok := merkle.Proof(leaves, i)
	if !ok || len(proof) > 63 || !merkle.Verify(root, leaves[i], i, len(leaves), proof) {
		t.Errorf("leaf %d of %d: the proof %v %t is not verified, or too long", i, len(leaves), proof, ok)
	}
}

// checkBeginning checks that the link of the first m leaves shows that the tree extends theirs, and that it has at most 63 elements.
func checkBeginning(t *testing.T, leaves []uint64, root uint64, m int) {
	t.Helper()
	proof, ok := merkle.Prefix(leaves, m)
	if !ok || len(proof) > 63 || !merkle.Extends(merkle.Root(leaves[:m]), root, m, len(leaves), proof) {
		t.Errorf("the first %d of %d: the link %v %t does not show it, or is too long", m, len(leaves), proof, ok)
	}
}

// P7.8: every leaf and every beginning of all trees up to some size
func TestProofsOfAllLeaves(t *testing.T) {
	var r random
	for n := 1; n <= 200; n++ {
		leaves := r.hashes(n)
		root := merkle.Root(leaves)
		for i := range n {
			checkLeaf(t, leaves, root, i)
			checkBeginning(t, leaves, root, i+1)
		}
	}
}

// P7.8: leaves that are equal, or small numbers
func TestProofsOfEqualLeaves(t *testing.T) {
	for n := 1; n <= 70; n++ {
		zeros, counted := make([]uint64, n), make([]uint64, n)
		for i := range counted {
			counted[i] = uint64(i % 7)
		}
		for _, leaves := range [][]uint64{zeros, counted} {
			root := merkle.Root(leaves)
			for i := range n {
				checkLeaf(t, leaves, root, i)
				checkBeginning(t, leaves, root, i+1)
			}
		}
	}
}

// P7.8: long lists
func TestProofsOfLongLists(t *testing.T) {
	var r random
	for _, n := range []int{1023, 1024, 1025, 4097, 65535, 65536, 65537, 99999} {
		leaves := r.hashes(n)
		root := merkle.Root(leaves)
		for _, i := range within(n) {
			checkLeaf(t, leaves, root, i)
			checkBeginning(t, leaves, root, i+1)
		}
	}
}

// P7.3 with P7.8: each block of a string is proved to be in it, and no other one.
func TestProofsOfBlocks(t *testing.T) {
	var r random
	for _, length := range []int{1, 63, 64, 65, 640, 4000, 4096} {
		b := r.bytes(length)
		leaves := merkle.Blocks(b, 64)
		root := merkle.Root(leaves)
		for i := range leaves {
			block := b[64*i : min(length, 64*i+64)]
			proof, ok := merkle.Proof(leaves, i)
			if !ok || !merkle.Verify(root, merkle.Leaf(block), i, len(leaves), proof) {
				t.Errorf("block %d of %d bytes: the proof %v is not verified", i, length, proof)
			}
			block[0] ^= 1
			if merkle.Verify(root, merkle.Leaf(block), i, len(leaves), proof) {
				t.Errorf("block %d of %d bytes: the proof of another block is verified", i, length)
			}
			block[0] ^= 1
		}
	}
}

// P7.7 with P7.8: links one after another, while a tree grows; and a tree that has lost or changed a leaf does not extend the old one.
func TestLinksOfGrowingTrees(t *testing.T) {
	var r random
	for range 300 {
		n := 2 + r.below(100)
		leaves := r.hashes(n)
		m := 1 + r.below(n)
		k := 1 + r.below(m)
		first, middle, last := merkle.Root(leaves[:k]), merkle.Root(leaves[:m]), merkle.Root(leaves)
		early, _ := merkle.Prefix(leaves[:m], k)
		late, _ := merkle.Prefix(leaves, m)
		over, _ := merkle.Prefix(leaves, k)
		if !merkle.Extends(first, middle, k, m, early) || !merkle.Extends(middle, last, m, n, late) || !merkle.Extends(first, last, k, n, over) {
			t.Errorf("from %d over %d to %d leaves: a link does not show it", k, m, n)
		}
		leaves[r.below(k)] ^= 1 << r.below(64)
		other := merkle.Root(leaves)
		proof, _ := merkle.Prefix(leaves, k)
		if merkle.Extends(first, other, k, n, over) || merkle.Extends(first, other, k, n, proof) {
			t.Errorf("the first %d of %d leaves: one of them has changed, but the link shows that they have not", k, n)
		}
	}
}
