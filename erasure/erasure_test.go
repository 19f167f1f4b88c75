package erasure_test

import (
	"bytes"
	"math"
	"slices"
	"testing"

	"tapearchive/api"
	"tapearchive/erasure"
	"tapearchive/field"
)

// lengths are the lengths of shards that are tried with all counts.
var lengths = []int{0, 1, 2, 7, 64, 65}

// random is a sequence of numbers that is the same in each run.
type random uint32

// below returns the next number, from 0 to n - 1.
func (r *random) below(n int) int {
	*r = *r*1664525 + 1013904223
	return int(*r>>8) % n
}

// shard returns any bytes.
func (r *random) shard(length int) []byte {
	shard := make([]byte, length)
	for i := range shard {
		shard[i] = byte(r.below(256))
	}
	return shard
}

// shards returns n shards of any bytes.
func (r *random) shards(n, length int) [][]byte {
	list := make([][]byte, n)
	for i := range list {
		list[i] = r.shard(length)
	}
	return list
}

// whole returns data shards of any bytes, followed by their parity shards.
func (r *random) whole(data, parity, length int) [][]byte {
	shards := r.shards(data, length)
	return append(shards, parityOf(shards, parity)...)
}

// choice returns which of n shards are present, where present many are, whichever they are.
func (r *random) choice(n, present int) []bool {
	have := make([]bool, n)
	for present > 0 {
		if i := r.below(n); !have[i] {
			have[i] = true
			present--
		}
	}
	return have
}

// choices returns all possibilities which of n shards are present.
func choices(n int) [][]bool {
	list := make([][]bool, 1<<n)
	for number := range list {
		for i := range n {
			list[number] = append(list[number], number>>i&1 == 1)
		}
	}
	return list
}

// all returns the list that says that n shards are present.
func all(n int) []bool { return slices.Repeat([]bool{true}, n) }

// count returns how many shards are present.
func count(have []bool) int {
	n := 0
	for _, is := range have {
		if is {
			n++
		}
	}
	return n
}

// element returns that in row i and column j of a Cauchy matrix, by the definition of layer 5.
func element(columns, i, j int) byte {
	inverse, _ := field.Inv(byte(columns+i) ^ byte(j))
	return inverse
}

// parityOf follows the definition of the parity shards literally.
func parityOf(data [][]byte, parity int) [][]byte {
	shards := zeros(parity, len(data[0]))
	for i := range shards {
		for j := range data {
			factor := element(len(data), i, j)
			for offset := range shards[i] {
				shards[i][offset] ^= field.Mul(factor, data[j][offset])
			}
		}
	}
	return shards
}

// zeros returns n shards of zeros, which fit to each other whichever are parity shards.
func zeros(n, length int) [][]byte {
	list := make([][]byte, n)
	for i := range list {
		list[i] = make([]byte, length)
	}
	return list
}

// same reports whether two lists of shards are equal; nil and empty ones are.
func same(a, b [][]byte) bool { return slices.EqualFunc(a, b, bytes.Equal) }

// deepCopy returns a copy of a list of shards, with memory of its own for each shard.
func deepCopy(shards [][]byte) [][]byte {
	var list [][]byte
	for _, shard := range shards {
		list = append(list, slices.Clone(shard))
	}
	return list
}

// with returns shards with another one at place i.
func with(shards [][]byte, i int, shard []byte) [][]byte {
	list := deepCopy(shards)
	list[i] = shard
	return list
}

// otherLengths returns shards with 2 bytes, of which the one at place i has another length instead.
func otherLengths(n, i int) [][][]byte {
	var list [][][]byte
	for _, shard := range [][]byte{nil, {}, {0}, {0, 0, 0}, make([]byte, 258), make([]byte, 1<<16+2)} {
		list = append(list, with(zeros(n, 2), i, shard))
	}
	return list
}

// outside are numbers that are neither a number of shards nor a place.
func outside() []int {
	return []int{math.MinInt, math.MinInt + 1, math.MinInt + 16, -1 << 32, -256, -17, -16, -2, -1, 17, 18, 256, 257, 1 << 32, 1<<32 + 1, math.MaxInt - 16, math.MaxInt - 1, math.MaxInt}
}

// P6.1, and example 1
func TestParityKnownShards(t *testing.T) {
	for _, c := range []struct {
		data   [][]byte
		parity int
		want   [][]byte
	}{
		{[][]byte{{1}, {1}}, 1, [][]byte{{122}}},
		{[][]byte{{1, 0, 3}, {0, 1, 3}}, 1, [][]byte{{142, 244, 3 ^ 141}}},
		{[][]byte{{2}, {3}}, 1, [][]byte{{0}}},
		{[][]byte{{5, 6, 7}}, 1, [][]byte{{5, 6, 7}}},
		{[][]byte{{2, 1, 0}}, 2, [][]byte{{2, 1, 0}, {1, 142, 0}}},
		{[][]byte{{2, 1, 0}}, 3, [][]byte{{2, 1, 0}, {1, 142, 0}, {245, 244, 0}}},
		{[][]byte{{0, 0}, {0, 0}, {0, 0}}, 2, [][]byte{{0, 0}, {0, 0}}},
		{[][]byte{nil}, 2, [][]byte{nil, nil}},
		{[][]byte{nil, {}, nil}, 1, [][]byte{nil}},
		{[][]byte{{}, {}}, 3, [][]byte{{}, {}, {}}},
		{[][]byte{{1, 2}, {3, 4}}, 0, nil},
		{[][]byte{{7}}, 0, nil},
		{[][]byte{nil, nil}, 0, nil},
	} {
		if got, e := erasure.Parity(c.data, c.parity); !same(got, c.want) || e != api.OK {
			t.Errorf("%d parity shards of %v: %v %d instead of %v", c.parity, c.data, got, e, c.want)
		}
	}
}

// P6.1: all counts, also with the sum MaxShards
func TestParityFollowsDefinition(t *testing.T) {
	var r random
	for data := 1; data <= 16; data++ {
		for parity := range 17 - data {
			for _, length := range lengths {
				shards := r.shards(data, length)
				got, e := erasure.Parity(shards, parity)
				if want := parityOf(shards, parity); !same(got, want) || e != api.OK {
					t.Errorf("%d parity shards of %v: %v %d instead of %v", parity, shards, got, e, want)
				}
			}
		}
	}
	shards := r.shards(5, 100000)
	if got, e := erasure.Parity(shards, 3); !same(got, parityOf(shards, 3)) || e != api.OK {
		t.Errorf("3 parity shards of 5 with 100000 bytes: others, and %d", e)
	}
}

// P6.1: counts that are not valid, also where the lengths differ
func TestParityCounts(t *testing.T) {
	var r random
	for data := range 20 {
		counts := append(outside(), 17-data, 18-data)
		if data == 0 || data > 16 {
			counts = append(counts, 0, 1, 2, 15, 16)
		}
		for _, parity := range counts {
			if parity >= 0 && data >= 1 && data+parity >= 0 && data+parity <= 16 {
				continue
			}
			list := [][][]byte{make([][]byte, data), r.shards(data, 3)}
			if data > 1 {
				list = append(list, with(r.shards(data, 3), data-1, []byte{1, 2}))
			}
			for _, shards := range list {
				if got, e := erasure.Parity(shards, parity); got != nil || e != api.ErrRange {
					t.Errorf("%d parity shards of %v: %v %d", parity, shards, got, e)
				}
			}
		}
	}
	for _, parity := range append(outside(), 0, 1, 16) {
		for _, shards := range [][][]byte{nil, {}} {
			if got, e := erasure.Parity(shards, parity); got != nil || e != api.ErrRange {
				t.Errorf("%d parity shards of none: %v %d", parity, got, e)
			}
		}
	}
}

// P6.1: one shard has another length, whichever it is.
func TestParityOtherLength(t *testing.T) {
	for _, data := range []int{2, 3, 15, 16} {
		for i := range data {
			for _, shards := range otherLengths(data, i) {
				for parity := range 17 - data {
					if got, e := erasure.Parity(shards, parity); got != nil || e != api.ErrInvalid {
						t.Errorf("%d parity shards of %d, of which %d has another length: %v %d", parity, data, i, got, e)
					}
				}
			}
		}
	}
	for _, shards := range [][][]byte{{nil, {1}}, {{1}, nil}, {{1}, {1, 2}}, {{1, 2}, {1, 2}, {1}, {1}}} {
		if got, e := erasure.Parity(shards, 1); got != nil || e != api.ErrInvalid {
			t.Errorf("%v: %v %d", shards, got, e)
		}
	}
}

// P6.2
func TestCheckKnownShards(t *testing.T) {
	for _, c := range []struct {
		shards [][]byte
		parity int
		want   bool
	}{
		{[][]byte{{1}, {1}, {122}}, 1, true}, {[][]byte{{1}, {2}, {122}}, 1, false}, {[][]byte{{2}, {1}, {122}}, 1, false},
		{[][]byte{{1}, {1}, {121}}, 1, false}, {[][]byte{{1}, {122}, {1}}, 1, false}, {[][]byte{{122}, {1}, {1}}, 1, false},
		{[][]byte{{1}, {1}, {122}}, 0, true}, {[][]byte{{1}, {1}, {122}}, 2, false}, {[][]byte{{1}, {1}, {142}}, 2, true}, {[][]byte{{1}, {1}, {122}}, 3, false},
		{[][]byte{{7, 8}}, 0, true}, {[][]byte{{7, 8}}, 1, false}, {[][]byte{{7, 8}, {7, 8}}, 1, true}, {[][]byte{{7, 8}, {7, 9}}, 1, false},
		{[][]byte{{7, 8}, {7, 9}}, 0, true}, {[][]byte{{7, 8}, {7}}, 0, false}, {[][]byte{{7, 0}, {7}}, 1, false}, {[][]byte{{7}, {7, 0}}, 1, false},
		{[][]byte{nil}, 0, true}, {[][]byte{nil, {}}, 0, true}, {[][]byte{nil, {}}, 1, true}, {[][]byte{{}, nil, nil}, 2, true}, {[][]byte{nil, {0}}, 1, false},
		{nil, 0, false}, {nil, 1, false}, {nil, -1, false}, {[][]byte{}, 0, false},
	} {
		if got := erasure.Check(c.shards, c.parity); got != c.want {
			t.Errorf("%v with %d parity shards: %t", c.shards, c.parity, got)
		}
	}
}

// P6.2: all counts, and each byte of each shard changed
func TestCheckFollowsDefinition(t *testing.T) {
	var r random
	for n := 1; n <= 16; n++ {
		for parity := range n {
			for _, length := range []int{0, 1, 5} {
				shards := r.whole(n-parity, parity, length)
				if !erasure.Check(shards, parity) {
					t.Errorf("%v with %d parity shards: false", shards, parity)
				}
				for i := range shards {
					for offset := range shards[i] {
						changed := deepCopy(shards)
						changed[i][offset] ^= byte(1 + r.below(255))
						if got := erasure.Check(changed, parity); got != (parity == 0) {
							t.Errorf("%v with %d parity shards: %t", changed, parity, got)
						}
					}
				}
			}
		}
	}
}

// P6.2: shards of zeros fit, such that it depends on the numbers alone.
func TestCheckCounts(t *testing.T) {
	for n := range 20 {
		for _, parity := range append(outside(), n-1, n, n+1, 0, 1, 2, 14, 15, 16) {
			for _, length := range []int{0, 3} {
				want := parity >= 0 && parity < n && n <= 16
				if got := erasure.Check(zeros(n, length), parity); got != want {
					t.Errorf("%d shards, %d of them parity: %t", n, parity, got)
				}
			}
		}
	}
}

// P6.2: one shard of zeros has another length, whichever it is.
func TestCheckOtherLength(t *testing.T) {
	for _, n := range []int{2, 3, 16} {
		for i := range n {
			for _, shards := range otherLengths(n, i) {
				for parity := range n {
					if erasure.Check(shards, parity) {
						t.Errorf("%d shards, %d of them parity, of which %d has another length: true", n, parity, i)
					}
				}
			}
		}
	}
	for _, parity := range []int{0, 1, 2, 3} {
		if erasure.Check([][]byte{{0, 0}, {0, 0}, {0}, {0}}, parity) || erasure.Check([][]byte{{0}, {0}, {0}, {0, 0}}, parity) {
			t.Errorf("%d parity shards of other lengths: true", parity)
		}
	}
}

// P6.4, and the matrix of example 1
func TestUpdateKnownShards(t *testing.T) {
	for _, c := range []struct {
		parity      [][]byte
		data, index int
		old, next   []byte
		want        [][]byte
	}{
		{[][]byte{{122}}, 2, 0, []byte{1}, []byte{0}, [][]byte{{244}}},
		{[][]byte{{122}}, 2, 1, []byte{1}, []byte{0}, [][]byte{{142}}},
		{[][]byte{{122}}, 2, 1, []byte{0}, []byte{1}, [][]byte{{142}}},
		{[][]byte{{122, 0, 5}}, 2, 0, []byte{1, 3, 9}, []byte{1, 1, 9}, [][]byte{{122, 1, 5}}},
		{[][]byte{{9}, {9}}, 1, 0, []byte{4}, []byte{6}, [][]byte{{11}, {8}}},
		{[][]byte{{9}, {9}}, 1, 0, []byte{4}, []byte{4}, [][]byte{{9}, {9}}},
		{[][]byte{nil, {}}, 3, 2, nil, []byte{}, [][]byte{nil, nil}},
		{nil, 1, 0, []byte{4}, []byte{6}, nil}, {[][]byte{}, 16, 15, []byte{4}, []byte{6}, nil}, {nil, 16, 0, nil, nil, nil},
	} {
		if got, e := erasure.Update(c.parity, c.data, c.index, c.old, c.next); !same(got, c.want) || e != api.OK {
			t.Errorf("%v of %d data shards, of which %d changes from %v to %v: %v %d instead of %v", c.parity, c.data, c.index, c.old, c.next, got, e, c.want)
		}
	}
}

// updated follows P6.4 literally.
func updated(parity [][]byte, data, index int, old, next []byte) [][]byte {
	list := deepCopy(parity)
	for i := range list {
		factor := element(data, i, index)
		for offset := range list[i] {
			list[i][offset] ^= field.Mul(factor, old[offset]^next[offset])
		}
	}
	return list
}

// P6.4: all counts and all indices, with any bytes as parity shards
func TestUpdateFollowsDefinition(t *testing.T) {
	var r random
	for data := 1; data <= 16; data++ {
		for index := range data {
			for count := range 17 - data {
				for _, length := range lengths {
					parity, old, next := r.shards(count, length), r.shard(length), r.shard(length)
					got, e := erasure.Update(parity, data, index, old, next)
					if want := updated(parity, data, index, old, next); !same(got, want) || e != api.OK {
						t.Errorf("%v of %d data shards, of which %d changes from %v to %v: %v %d instead of %v", parity, data, index, old, next, got, e, want)
					}
					if got, e := erasure.Update(parity, data, index, old, slices.Clone(old)); !same(got, parity) || e != api.OK {
						t.Errorf("%v of %d data shards, of which %d stays %v: %v %d", parity, data, index, old, got, e)
					}
				}
			}
		}
	}
}

// P6.4: counts and indices that are not valid, also where the lengths differ
func TestUpdateCounts(t *testing.T) {
	for count := range 20 {
		numbers := append(outside(), 0, 1, 2, 8, 14, 15, 16, 16-count, 17-count)
		for _, data := range numbers {
			for _, index := range append(numbers, data, data-1, data+1) {
				valid := data >= 1 && data <= 16 && data+count <= 16
				for _, next := range [][]byte{{0}, {0, 0}} {
					want := api.OK
					if len(next) > 1 {
						want = api.ErrInvalid
					}
					if !valid || index < 0 || index >= data {
						want = api.ErrRange
					}
					got, e := erasure.Update(zeros(count, 1), data, index, []byte{0}, next)
					if e != want || want != api.OK && got != nil || want == api.OK && !same(got, zeros(count, 1)) {
						t.Errorf("%d parity shards of %d data shards, of which %d becomes %v: %v %d", count, data, index, next, got, e)
					}
				}
			}
		}
	}
}

// P6.4: each of the shards has another length, or some of them together have.
func TestUpdateOtherLength(t *testing.T) {
	check := func(shards [][]byte) {
		if got, e := erasure.Update(shards[2:], 3, 1, shards[0], shards[1]); got != nil || e != api.ErrInvalid {
			t.Errorf("%v becomes %v with the parity shards %v: %v %d", shards[0], shards[1], shards[2:], got, e)
		}
	}
	for _, n := range []int{2, 3, 4, 15} {
		for i := range n {
			for _, shards := range otherLengths(n, i) {
				check(shards)
			}
		}
	}
	for _, shards := range [][][]byte{
		{nil, {1}}, {{1}, nil}, {nil, nil, {1}}, {{1}, {1}, nil}, {{1}, {1}, {1, 2}, {1, 2}}, {{1, 2}, {1, 2}, {1}, {1}}, {{1}, {1, 2}, {1, 2}}, {{1, 2}, {1}, {1, 2}}, {{1}, {1, 2}, {1, 2, 3}},
	} {
		check(shards)
	}
}
