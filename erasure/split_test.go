package erasure_test

import (
	"bytes"
	"math"
	"testing"

	"tapearchive/api"
	"tapearchive/erasure"
)

// P6.5, and example 2
func TestSplitKnownBytes(t *testing.T) {
	for _, c := range []struct {
		b    string
		n    int
		want []string
	}{
		{"abcde", 2, []string{"abc", "de\x00"}}, {"abcdef", 2, []string{"abc", "def"}}, {"abcdef", 1, []string{"abcdef"}},
		{"abcdef", 3, []string{"ab", "cd", "ef"}}, {"abcdef", 4, []string{"ab", "cd", "ef", "\x00\x00"}}, {"abcdef", 5, []string{"ab", "cd", "ef", "\x00\x00", "\x00\x00"}},
		{"abc", 5, []string{"a", "b", "c", "\x00", "\x00"}}, {"abcde", 4, []string{"ab", "cd", "e\x00", "\x00\x00"}}, {"a", 3, []string{"a", "\x00", "\x00"}},
		{"", 1, []string{""}}, {"", 3, []string{"", "", ""}}, {"\x00", 2, []string{"\x00", "\x00"}}, {"a", 1, []string{"a"}},
	} {
		got, e := erasure.Split([]byte(c.b), c.n)
		var want [][]byte
		for _, shard := range c.want {
			want = append(want, []byte(shard))
		}
		if !same(got, want) || e != api.OK {
			t.Errorf("%q into %d shards: %q %d instead of %q", c.b, c.n, got, e, want)
		}
	}
	if got, e := erasure.Split(nil, 2); len(got) != 2 || len(got[0]) != 0 || len(got[1]) != 0 || e != api.OK {
		t.Errorf("nil into 2 shards: %v %d", got, e)
	}
}

// someBytes are the numbers of bytes that are split, around multiples of all numbers of shards.
func someBytes() []int {
	var list []int
	for n := range 100 {
		list = append(list, n)
	}
	return append(list, 255, 256, 257, 719, 720, 721, 4095, 4096, 4097, 65535, 65536, 65537)
}

// P6.5 and P6.9: all numbers of shards, and bytes of many numbers
func TestSplitFollowsDefinition(t *testing.T) {
	var r random
	for n := 1; n <= 16; n++ {
		for _, size := range someBytes() {
			b := r.shard(size)
			shards, e := erasure.Split(b, n)
			if len(shards) != n || e != api.OK {
				t.Fatalf("%d bytes into %d shards: %d shards, %d", size, n, len(shards), e)
			}
			length := size / n
			if size%n > 0 {
				length++
			}
			for i, shard := range shards {
				if len(shard) != length {
					t.Errorf("%d bytes into %d shards: %d bytes in shard %d instead of %d", size, n, len(shard), i, length)
				}
			}
			padded := append(bytes.Clone(b), make([]byte, n*length-size)...)
			if got := bytes.Join(shards, nil); !bytes.Equal(got, padded) {
				t.Errorf("%v into %d shards: %v", b, n, shards)
			}
			if got, e := erasure.Join(shards, size); !bytes.Equal(got, b) || e != api.OK {
				t.Errorf("the first %d bytes of %v: %v %d instead of %v", size, shards, got, e, b)
			}
		}
	}
}

// P6.5
func TestSplitNumbers(t *testing.T) {
	for _, n := range append(outside(), 0) {
		for _, b := range [][]byte{nil, {}, {1}, make([]byte, 16), make([]byte, 17), make([]byte, 4096)} {
			if got, e := erasure.Split(b, n); got != nil || e != api.ErrRange {
				t.Errorf("%d bytes into %d shards: %v %d", len(b), n, got, e)
			}
		}
	}
}

// manyLists returns lists of shards of equal and of different lengths, also with more than MaxShards of them.
func manyLists() [][][]byte {
	var r random
	list := [][][]byte{
		nil, {}, {nil}, {{}}, {nil, {}, nil}, {{1}}, {{1}, {2}}, {{1, 2, 3}, {4, 5, 6}}, {{1}, {2, 3}, {}, {4, 5, 6, 7}, nil, {8}}, {nil, {1, 2}}, {{1, 2}, nil}, {{0}, {0, 0}},
		r.shards(16, 3), r.shards(17, 3), r.shards(300, 1),
	}
	var mixed [][]byte
	for range 40 {
		mixed = append(mixed, r.shard(r.below(12)))
	}
	return append(list, mixed)
}

// P6.6: all sizes
func TestJoinFollowsDefinition(t *testing.T) {
	for _, shards := range manyLists() {
		whole := bytes.Join(shards, nil)
		for size := range len(whole) + 1 {
			if got, e := erasure.Join(shards, size); !bytes.Equal(got, whole[:size]) || e != api.OK {
				t.Errorf("the first %d bytes of %v: %v %d", size, shards, got, e)
			}
		}
		for _, size := range []int{len(whole) + 1, len(whole) + 2, len(whole) + 256, 1 << 31, 1<<32 + len(whole), 1 << 62, math.MaxInt - 1, math.MaxInt} {
			if got, e := erasure.Join(shards, size); got != nil || e != api.ErrTruncated {
				t.Errorf("the first %d bytes of %v: %v %d", size, shards, got, e)
			}
		}
		for _, size := range []int{-1, -2, -256, -1 << 32, -len(whole) - 1, math.MinInt + 1, math.MinInt} {
			if got, e := erasure.Join(shards, size); got != nil || e != api.ErrRange {
				t.Errorf("the first %d bytes of %v: %v %d", size, shards, got, e)
			}
		}
	}
}

// P6.6: long shards, and one that the size does not reach
func TestJoinLongShards(t *testing.T) {
	var r random
	shards := [][]byte{r.shard(70000), r.shard(1), r.shard(100000), make([]byte, 1<<20)}
	whole := bytes.Join(shards[:3], nil)
	for _, size := range []int{0, 1, 69999, 70000, 70001, 70002, 170000, 170001} {
		if got, e := erasure.Join(shards, size); !bytes.Equal(got, whole[:size]) || e != api.OK {
			t.Errorf("the first %d bytes: %d bytes, %d", size, len(got), e)
		}
	}
}

// P6.6: parts of one memory, which together have more bytes than there are, are not copied before it is known that they suffice.
func TestJoinGreatSizes(t *testing.T) {
	shards := make([][]byte, 1<<16)
	one := make([]byte, 1<<24)
	for i := range shards {
		shards[i] = one
	}
	for _, size := range []int{1<<40 + 1, math.MaxInt} {
		if got, e := erasure.Join(shards, size); got != nil || e != api.ErrTruncated {
			t.Errorf("the first %d bytes of 2^40: %d bytes, %d", size, len(got), e)
		}
	}
	if got, e := erasure.Join(shards, 1<<24+1); len(got) != 1<<24+1 || e != api.OK {
		t.Errorf("the first bytes of 2^40: %d bytes, %d", len(got), e)
	}
}
