package erasure_test

import (
	"bytes"
	"math"
	"slices"
	"testing"

	"tapearchive/api"
	"tapearchive/erasure"
)

// spoil returns shards in which those that are not present have other bytes and other lengths.
func (r *random) spoil(shards [][]byte, have []bool) [][]byte {
	list := deepCopy(shards)
	for i, is := range have {
		if !is {
			list[i] = r.shard(r.below(9))
		}
	}
	return list
}

// checkReconstruct checks P6.3 for shards of the same length, as far as they are present: that the result consists of data shards and their parity shards, and contains the first present ones, as many as there are data shards. By the definitions of the chapter there is only one such result.
func checkReconstruct(t *testing.T, shards [][]byte, have []bool, parity int) {
	data := len(shards) - parity
	got, e := erasure.Reconstruct(shards, have, parity)
	if count(have) < data {
		if got != nil || e != api.ErrLost {
			t.Errorf("%v, %d of them parity, present %v: %v %d instead of a loss", shards, parity, have, got, e)
		}
		return
	}
	if e != api.OK || len(got) != len(shards) {
		t.Errorf("%v, %d of them parity, present %v: %v %d", shards, parity, have, got, e)
		return
	}
	if want := parityOf(got[:data], parity); !same(got[data:], want) {
		t.Errorf("%v, %d of them parity, present %v: %v, but its parity shards are %v", shards, parity, have, got, want)
	}
	met := 0
	for i, is := range have {
		if is && met < data {
			met++
			if !bytes.Equal(got[i], shards[i]) {
				t.Errorf("%v, %d of them parity, present %v: %v has another shard %d", shards, parity, have, got, i)
			}
		}
	}
}

// P6.3, and examples 1 and 3
func TestReconstructKnownShards(t *testing.T) {
	const is, no = true, false
	for _, c := range []struct {
		shards [][]byte
		have   []bool
		parity int
		want   [][]byte
		e      api.Errno
	}{
		{[][]byte{{1}, {1}, nil}, []bool{is, is, no}, 1, [][]byte{{1}, {1}, {122}}, api.OK},
		{[][]byte{{9, 9}, {1}, {122}}, []bool{no, is, is}, 1, [][]byte{{1}, {1}, {122}}, api.OK},
		{[][]byte{{1}, {}, {122}}, []bool{is, no, is}, 1, [][]byte{{1}, {1}, {122}}, api.OK},
		{[][]byte{{1}, {1}, {122}}, []bool{is, is, is}, 1, [][]byte{{1}, {1}, {122}}, api.OK},
		{[][]byte{{1}, {1}, {121}}, []bool{is, is, is}, 1, [][]byte{{1}, {1}, {122}}, api.OK},
		{[][]byte{{1}, {1}, {122}}, []bool{is, is, is}, 0, [][]byte{{1}, {1}, {122}}, api.OK},
		{[][]byte{{1}, {7}, {122}}, []bool{is, is, is}, 2, [][]byte{{1}, {1}, {142}}, api.OK},
		{[][]byte{{1}, {7}, {2}}, []bool{no, no, is}, 2, [][]byte{{4}, {4}, {2}}, api.OK},
		{[][]byte{nil, {}, {1, 2, 3}}, []bool{is, is, no}, 1, [][]byte{nil, nil, nil}, api.OK},
		{[][]byte{{5}}, []bool{is}, 0, [][]byte{{5}}, api.OK},
		{[][]byte{{1}, {1}, {122}}, []bool{is, no, no}, 1, nil, api.ErrLost},
		{[][]byte{{1}, {1}, {122}}, []bool{no, no, no}, 2, nil, api.ErrLost},
		{[][]byte{{1}, {1}, {122}}, []bool{is, is, no}, 0, nil, api.ErrLost},
		{[][]byte{{5}}, []bool{no}, 0, nil, api.ErrLost},
		{[][]byte{{1}, {1, 2}, {122}}, []bool{is, is, no}, 1, nil, api.ErrInvalid},
		{[][]byte{{1}, {1}, {122}}, []bool{is}, 1, nil, api.ErrInvalid},
		{[][]byte{{1}, {1}, {122}}, nil, 1, nil, api.ErrInvalid},
		{[][]byte{{1}, {1}, {122}}, []bool{is, is, is}, 3, nil, api.ErrRange},
		{[][]byte{{1}, {1}, {122}}, []bool{is, is, is}, -1, nil, api.ErrRange},
		{nil, nil, 0, nil, api.ErrRange}, {nil, []bool{is}, 1, nil, api.ErrRange}, {[][]byte{}, nil, -1, nil, api.ErrRange},
	} {
		if got, e := erasure.Reconstruct(c.shards, c.have, c.parity); !same(got, c.want) || e != c.e || e != api.OK && got != nil {
			t.Errorf("%v, %d of them parity, present %v: %v %d instead of %v %d", c.shards, c.parity, c.have, got, e, c.want, c.e)
		}
	}
}

// P6.3: all choices of few shards, which do not fit to each other, such that the result shows which of them play a part
func TestReconstructAllChoices(t *testing.T) {
	var r random
	for n := 1; n <= 9; n++ {
		for _, have := range choices(n) {
			for parity := range n {
				checkReconstruct(t, r.spoil(r.shards(n, r.below(4)), have), have, parity)
			}
		}
	}
}

// P6.3: many choices of many shards, as many as there are data shards, one less, more, and all
func TestReconstructManyShards(t *testing.T) {
	var r random
	for n := 10; n <= 16; n++ {
		for parity := range n {
			for _, present := range []int{n - parity - 1, n - parity, n - parity, n - parity, n - parity + r.below(parity+1), n - parity + r.below(parity+1), n} {
				have := r.choice(n, present)
				checkReconstruct(t, r.spoil(r.shards(n, lengths[r.below(len(lengths))]), have), have, parity)
			}
		}
	}
}

// P6.3: the data shards alone, and the parity shards alone
func TestReconstructOneKind(t *testing.T) {
	var r random
	for n := 1; n <= 16; n++ {
		for parity := range n {
			first, last := make([]bool, n), make([]bool, n)
			for i := range n {
				first[i] = i < n-parity
				last[i] = i >= n-parity
			}
			for _, length := range []int{0, 1, 65} {
				checkReconstruct(t, r.spoil(r.shards(n, length), first), first, parity)
				checkReconstruct(t, r.spoil(r.shards(n, length), last), last, parity)
				checkReconstruct(t, r.shards(n, length), all(n), parity)
			}
		}
	}
}

// P6.3: with parity out of its range, and with too many shards, nothing else matters.
func TestReconstructCounts(t *testing.T) {
	for n := range 20 {
		numbers := append(outside(), n, n+1, -n, math.MaxInt-n, math.MinInt+n)
		if n > 16 {
			numbers = append(numbers, 0, 1, 2, n/2, n-16, n-2, n-1)
		}
		for _, parity := range numbers {
			if parity >= 0 && parity < n && n <= 16 {
				continue
			}
			lists := [][][]byte{zeros(n, 0), zeros(n, 3)}
			if n > 1 {
				lists = append(lists, with(zeros(n, 3), n-1, nil))
			}
			for _, shards := range lists {
				for _, have := range [][]bool{nil, make([]bool, n), all(n), all(n + 1)} {
					if got, e := erasure.Reconstruct(shards, have, parity); got != nil || e != api.ErrRange {
						t.Errorf("%d shards, %d of them parity, present %v: %v %d", n, parity, have, got, e)
					}
				}
			}
		}
	}
}

// P6.3: have is longer or shorter than the list of shards, whatever it contains and whichever their lengths are.
func TestReconstructOtherHave(t *testing.T) {
	for n := 1; n <= 16; n++ {
		for _, length := range []int{0, 1, n - 1, n + 1, n + 2, 17, 256 + n} {
			if length == n {
				continue
			}
			for _, have := range [][]bool{make([]bool, length), all(length)} {
				for _, shards := range [][][]byte{zeros(n, 2), with(zeros(n, 2), n-1, nil), with(zeros(n, 2), 0, nil)} {
					for parity := range n {
						if got, e := erasure.Reconstruct(shards, have, parity); got != nil || e != api.ErrInvalid {
							t.Errorf("%d shards, %d of them parity, present %v: %v %d", n, parity, have, got, e)
						}
					}
				}
			}
		}
	}
}

// P6.3: one shard that is present has another length, whichever it is, also behind those that play a part, and where fewer are present than there are data shards. If it is not present, it does not matter, nor if no other one is present.
func TestReconstructOtherLength(t *testing.T) {
	for _, n := range []int{2, 3, 5} {
		for i := range n {
			for _, shards := range otherLengths(n, i) {
				for _, have := range choices(n) {
					for parity := range n {
						want := api.OK
						if count(have) < n-parity {
							want = api.ErrLost
						}
						if have[i] && count(have) > 1 {
							want = api.ErrInvalid
						}
						got, e := erasure.Reconstruct(shards, have, parity)
						if e != want || e != api.OK && got != nil || e == api.OK && !same(got, zeros(n, len(shards[slices.Index(have, true)]))) {
							t.Errorf("%d shards, %d of them parity, present %v, of which %d has %d bytes: %v %d instead of %d", n, parity, have, i, len(shards[i]), got, e, want)
						}
					}
				}
			}
		}
	}
}

// P6.3: long shards, of which some are lost
func TestReconstructLongShards(t *testing.T) {
	var r random
	shards := r.whole(5, 3, 20000)
	for _, have := range [][]bool{{false, true, false, true, true, true, false, true}, {true, false, false, false, true, true, true, true}} {
		checkReconstruct(t, r.spoil(shards, have), have, 3)
	}
}
