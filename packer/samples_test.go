package packer_test

import (
	"math"
	"slices"

	"tapearchive/packer"
)

// The sizes, capacities and pieces that the tests try.

// piece returns a piece.
func piece(file, offset, length int) packer.Piece {
	return packer.Piece{File: file, Offset: offset, Length: length}
}

// of returns n files of one size.
func of(n, size int) []int { return slices.Repeat([]int{size}, n) }

// to returns the numbers from one to another one.
func to(first, last int) []int {
	var list []int
	for n := first; n <= last; n++ {
		list = append(list, n)
	}
	return list
}

// ints are the least and the greatest int, the bounds of all arguments, and those beyond each.
func ints() []int {
	return []int{
		math.MinInt, math.MinInt + 1, -1 << 50, -4097, -4096, -64, -2, -1, 0, 1, 2, 3, 31, 32, 33, 63, 64, 65, 511, 512, 513, 4095, 4096, 4097,
		1<<31 - 1, 1 << 31, 1<<32 + 5, 1<<50 - 1, 1 << 50, 1<<50 + 1, 1 << 62, 1<<62 + 1, math.MaxInt - 4096, math.MaxInt - 1, math.MaxInt,
	}
}

// isSize and isCapacity report whether a number is permitted as one.
func isSize(n int) bool     { return n >= 0 && n <= 4096 }
func isCapacity(n int) bool { return n >= 1 && n <= 1<<50 }

// lists returns all lists of n numbers from 0 to most.
func lists(n, most int) [][]int {
	if n == 0 {
		return [][]int{nil}
	}
	var all [][]int
	for _, front := range lists(n-1, most) {
		for last := range most + 1 {
			all = append(all, append(slices.Clone(front), last))
		}
	}
	return all
}

// mixedSizes returns many lists of sizes: of some and of many, small and great ones, with and without files without bytes.
func mixedSizes() [][]int {
	var r random
	var all [][]int
	for _, n := range []int{1, 2, 3, 10, 63, 64, 65, 66, 128, 129, 200, 511, 512} {
		for _, most := range []int{0, 1, 2, 5, 64, 100, 1024, 4096} {
			sizes := make([]int, n)
			for i := range sizes {
				sizes[i] = r.below(most + 1)
				if r.below(3) == 0 {
					sizes[i] /= 1 + r.below(most+1)
				}
			}
			all = append(all, sizes)
		}
	}
	return all
}

// capacities are some that are smaller and some that are greater than sizes and sums of them.
func capacities() []int {
	return []int{1, 2, 3, 5, 7, 63, 64, 65, 100, 1024, 4095, 4096, 4097, 10000, 1 << 18, 1<<50 - 1, 1 << 50}
}

// mixed returns n bytes, which depend on n and on their places.
func mixed(n int) []byte {
	r := random(n)
	b := make([]byte, n)
	for i := range b {
		b[i] = byte(r.below(256))
	}
	return b
}

// files returns arguments with files of these sizes, whose numbers are from 101 on and whose versions from 1 on, and these pieces.
func files(sizes []int, l ...packer.Piece) arguments {
	x := arguments{l: l}
	for i, size := range sizes {
		x.ids, x.versions, x.data = append(x.ids, 101+i), append(x.versions, 1+i), append(x.data, mixed(size))
	}
	return x
}

// nothing returns n pieces without bytes of the first file.
func nothing(n int) []packer.Piece { return make([]packer.Piece, n) }
