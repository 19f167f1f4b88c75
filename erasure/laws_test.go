package erasure_test

import (
	"bytes"
	"testing"

	"tapearchive/api"
	"tapearchive/erasure"
)

// checked returns data shards of any bytes with the parity shards that Parity returns, which Check must confirm.
func checked(t *testing.T, data [][]byte, parity int) [][]byte {
	rest, e := erasure.Parity(data, parity)
	shards := append(deepCopy(data), rest...)
	if e != api.OK || !erasure.Check(shards, parity) {
		t.Fatalf("%v with %d parity shards: %v %d, or it is not confirmed", data, parity, rest, e)
	}
	return shards
}

// P6.7: all choices of few shards
func TestRecoveryOfAllChoices(t *testing.T) {
	var r random
	for n := 1; n <= 10; n++ {
		for parity := range n {
			shards := checked(t, r.shards(n-parity, 1+r.below(8)), parity)
			for _, have := range choices(n) {
				got, e := erasure.Reconstruct(r.spoil(shards, have), have, parity)
				if is := count(have) >= n-parity; is != (e == api.OK) || is && !same(got, shards) || !is && (got != nil || e != api.ErrLost) {
					t.Fatalf("%v, %d of them parity, present %v: %v %d", shards, parity, have, got, e)
				}
			}
		}
	}
}

// P6.7: all choices of as many shards as there are data shards, and of one less, among the most shards
func TestRecoveryOfMostShards(t *testing.T) {
	var r random
	for _, parity := range []int{0, 1, 2, 3, 13, 14, 15} {
		shards := checked(t, r.shards(16-parity, 2), parity)
		for _, have := range choices(16) {
			lack := 16 - parity - count(have)
			if lack != 0 && lack != 1 {
				continue
			}
			got, e := erasure.Reconstruct(r.spoil(shards, have), have, parity)
			if lack == 0 && (e != api.OK || !same(got, shards)) || lack == 1 && (got != nil || e != api.ErrLost) {
				t.Fatalf("%v, %d of them parity, present %v: %v %d", shards, parity, have, got, e)
			}
		}
	}
}

// P6.7: many random data shards, with all counts
func TestRecoveryOfManyShards(t *testing.T) {
	var r random
	for range 1500 {
		n := 1 + r.below(16)
		parity := r.below(n)
		shards := checked(t, r.shards(n-parity, r.below(130)), parity)
		have := r.choice(n, n-parity+r.below(parity+1))
		if got, e := erasure.Reconstruct(r.spoil(shards, have), have, parity); e != api.OK || !same(got, shards) {
			t.Fatalf("%v, %d of them parity, present %v: %v %d", shards, parity, have, got, e)
		}
	}
}

// P6.7: shards that have been changed, one of them present: what is reconstructed is whole, but another one.
func TestRecoveryOfChangedShards(t *testing.T) {
	var r random
	for range 300 {
		n := 2 + r.below(15)
		parity := 1 + r.below(n-1)
		shards := checked(t, r.shards(n-parity, 1+r.below(9)), parity)
		i := r.below(n - parity)
		changed := deepCopy(shards)
		changed[i][r.below(len(changed[i]))] ^= byte(1 + r.below(255))
		got, e := erasure.Reconstruct(changed, all(n), parity)
		if e != api.OK || same(got, shards) || !same(got[:n-parity], changed[:n-parity]) || !erasure.Check(got, parity) || erasure.Check(changed, parity) {
			t.Fatalf("%v, %d of them parity, of which %d was changed: %v %d", changed, parity, i, got, e)
		}
	}
}

// P6.8: one data shard after another is changed, with all counts.
func TestUpdatesFollowData(t *testing.T) {
	var r random
	for data := 1; data <= 16; data++ {
		for count := range 17 - data {
			for _, length := range []int{0, 1, 9, 64} {
				shards := r.shards(data, length)
				parity, _ := erasure.Parity(shards, count)
				for i, next := range r.shards(data, length) {
					after, e := erasure.Update(parity, data, i, shards[i], next)
					shards[i] = next
					want, _ := erasure.Parity(shards, count)
					if !same(after, want) || len(after) != count || e != api.OK {
						t.Fatalf("%v with %v instead of another shard %d: %v %d instead of %v", shards, next, i, after, e, want)
					}
					parity = after
				}
			}
		}
	}
}

// P6.8: an update and the one back, and two updates of which the second continues the first
func TestUpdatesCompose(t *testing.T) {
	var r random
	for range 500 {
		data := 1 + r.below(15)
		index, length := r.below(data), r.below(20)
		parity := r.shards(1+r.below(16-data), length)
		first, second, third := r.shard(length), r.shard(length), r.shard(length)
		once, _ := erasure.Update(parity, data, index, first, second)
		if back, e := erasure.Update(once, data, index, second, first); !same(back, parity) || e != api.OK {
			t.Errorf("%v of %d data shards, of which %d changes from %v to %v and back: %v %d", parity, data, index, first, second, back, e)
		}
		twice, _ := erasure.Update(once, data, index, second, third)
		if direct, e := erasure.Update(parity, data, index, first, third); !same(direct, twice) || e != api.OK {
			t.Errorf("%v of %d data shards, of which %d changes from %v over %v to %v: %v, but %v %d directly", parity, data, index, first, second, third, twice, direct, e)
		}
	}
}

// sums returns the sums of shards byte by byte.
func sums(a, b [][]byte) [][]byte {
	list := deepCopy(a)
	for i, shard := range b {
		for offset, x := range shard {
			list[i][offset] ^= x
		}
	}
	return list
}

// P6.8: parity shards of sums, with all counts
func TestSumsOfShards(t *testing.T) {
	var r random
	for data := 1; data <= 16; data++ {
		for count := range 17 - data {
			for _, length := range []int{0, 1, 33} {
				a, b := r.shards(data, length), r.shards(data, length)
				first, _ := erasure.Parity(a, count)
				second, _ := erasure.Parity(b, count)
				got, e := erasure.Parity(sums(a, b), count)
				if !same(got, sums(first, second)) || len(got) != count || e != api.OK {
					t.Errorf("the sums of %v and %v: %v %d instead of the sums of %v and %v", a, b, got, e, first, second)
				}
			}
		}
	}
}

// P6.5 to P6.9: bytes that are split, of whose shards some are lost, are there again when the others are reconstructed and joined.
func TestLostBytesReturn(t *testing.T) {
	var r random
	for range 300 {
		data := 1 + r.below(16)
		parity := r.below(17 - data)
		b := r.shard(r.below(600))
		parts, _ := erasure.Split(b, data)
		shards := checked(t, parts, parity)
		have := r.choice(data+parity, data)
		restored, e := erasure.Reconstruct(r.spoil(shards, have), have, parity)
		if e != api.OK {
			t.Fatalf("%d data and %d parity shards, present %v: %d", data, parity, have, e)
		}
		if got, e := erasure.Join(restored, len(b)); !bytes.Equal(got, b) || e != api.OK {
			t.Errorf("%v in %d data and %d parity shards, present %v: %v %d", b, data, parity, have, got, e)
		}
	}
}
