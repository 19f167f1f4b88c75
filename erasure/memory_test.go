package erasure_test

import (
	"bytes"
	"slices"
	"testing"

	"tapearchive/api"
	"tapearchive/erasure"
)

// call is a call of one of the functions, which takes all of its byte strings from one list.
type call struct {
	name   string
	shards [][]byte
	do     func(shards [][]byte) ([][]byte, api.Errno)
}

// layout returns shards as parts of one memory, one directly behind the other, in a list with more of them behind its length.
func layout(shards [][]byte) (list [][]byte, memory []byte) {
	memory = append(bytes.Join(shards, nil), 98, 98, 98, 98)
	rest := memory
	for _, shard := range shards {
		list = append(list, rest[:len(shard)])
		rest = rest[len(shard):]
	}
	return append(list, rest, nil)[:len(shards)], memory
}

// scribble changes all bytes of each shard, and those that fit behind it, and reports whether no other shard has changed by that.
func scribble(shards [][]byte) bool {
	own := true
	for i, shard := range shards {
		before := deepCopy(shards)
		long := shard[:cap(shard)]
		for k := range long {
			long[k] ^= 255
		}
		for j := range shards {
			own = own && (i == j || bytes.Equal(shards[j], before[j]))
		}
	}
	list := shards[:cap(shards)]
	for i := range list {
		list[i] = []byte{97}
	}
	return own
}

// reconstruct returns a call of Reconstruct that fails if have, also behind its length, is not as before.
func reconstruct(t *testing.T, have []bool, parity int) func([][]byte) ([][]byte, api.Errno) {
	return func(shards [][]byte) ([][]byte, api.Errno) {
		long := append(slices.Clone(have), false, true, false, true)
		before := slices.Clone(long)
		got, e := erasure.Reconstruct(shards, long[:len(have)], parity)
		if !slices.Equal(long, before) {
			t.Errorf("%v, %d of them parity: %v has become %v", shards, parity, before, long)
		}
		return got, e
	}
}

// callsOfCounts returns calls of the functions that take counts.
func callsOfCounts(t *testing.T, data, parity int) []call {
	var r random
	n := data + parity
	shards := r.whole(data, parity, 5)
	return []call{
		{"Parity", shards[:data], func(l [][]byte) ([][]byte, api.Errno) { return erasure.Parity(l, parity) }},
		{"Check", shards, func(l [][]byte) ([][]byte, api.Errno) { return nil, isOK(erasure.Check(l, parity)) }},
		{"Check", r.shards(n, 5), func(l [][]byte) ([][]byte, api.Errno) { return nil, isOK(erasure.Check(l, parity)) }},
		{"Reconstruct", shards, reconstruct(t, all(n), parity)},
		{"Reconstruct", shards, reconstruct(t, r.choice(n, data), parity)},
		{"Reconstruct", shards, reconstruct(t, r.choice(n, data), parity)},
		{"Reconstruct", r.shards(n, 5), reconstruct(t, r.choice(n, data+parity/2), parity)},
		{"Reconstruct", shards, reconstruct(t, r.choice(n, data-1), parity)},
		{"Update", r.shards(2+parity, 5), func(l [][]byte) ([][]byte, api.Errno) { return erasure.Update(l[2:], data, data-1, l[0], l[1]) }},
		{"Update", r.shards(2+parity, 5), func(l [][]byte) ([][]byte, api.Errno) { return erasure.Update(l[2:], data, 0, l[0], l[0]) }},
	}
}

// isOK returns api.OK for true.
func isOK(ok bool) api.Errno {
	if ok {
		return api.OK
	}
	return api.ErrInvalid
}

// calls returns calls of all functions, also some that fail.
func calls(t *testing.T) []call {
	var r random
	var list []call
	for data := 1; data <= 16; data++ {
		for parity := range 17 - data {
			list = append(list, callsOfCounts(t, data, parity)...)
		}
	}
	for n := range 18 {
		split := func(l [][]byte) ([][]byte, api.Errno) { return erasure.Split(l[0], n) }
		list = append(list, call{"Split", r.shards(1, 1), split}, call{"Split", r.shards(1, 48), split}, call{"Split", r.shards(1, 50), split})
	}
	for _, size := range []int{-1, 0, 1, 4, 5, 14, 15, 16} {
		join := func(l [][]byte) ([][]byte, api.Errno) {
			b, e := erasure.Join(l, size)
			return [][]byte{b}, e
		}
		list = append(list, call{"Join", r.shards(3, 5), join}, call{"Join", r.shards(1, 15), join})
	}
	return list
}

// R3: the arguments stay as they are, with shards that lie in one memory and have room behind them, and the results are new memory.
func TestNoSharedMemory(t *testing.T) {
	for _, c := range calls(t) {
		list, memory := layout(c.shards)
		want, is := c.do(deepCopy(c.shards))
		got, e := c.do(list)
		again, _ := c.do(list)
		if !same(got, want) || e != is {
			t.Errorf("%s(%v): %v %d instead of %v %d", c.name, c.shards, got, e, want, is)
		}
		if !scribble(again) {
			t.Errorf("%s(%v): two shards of the result share memory", c.name, c.shards)
		}
		if !same(got, want) {
			t.Errorf("%s(%v): two results share memory", c.name, c.shards)
		}
		checkUnchanged(t, c, list, memory)
		clear(memory)
		if !same(got, want) {
			t.Errorf("%s(%v): the result shares memory with an argument", c.name, c.shards)
		}
	}
}

// checkUnchanged checks that a list that layout has made of the shards of a call, and its memory, also behind the list and its shards, are as before.
func checkUnchanged(t *testing.T, c call, list [][]byte, memory []byte) {
	before, bytesBefore := layout(c.shards)
	more := len(c.shards) + 2
	if !bytes.Equal(memory, bytesBefore) || !same(list[:more], before[:more]) {
		t.Errorf("%s: %v has become %v in %v", c.name, c.shards, list[:more], memory)
		return
	}
	at := 0
	for i, shard := range list {
		if &shard[0] != &memory[at] {
			t.Errorf("%s: shard %d of %v is now another one", c.name, i, c.shards)
		}
		at += len(shard)
	}
}

// R3 with P6.1 to P6.4 and P6.6: some shards are the same slice, or overlap.
func TestShardsInOneMemory(t *testing.T) {
	var r random
	for _, n := range []int{2, 3, 8} {
		memory := r.shard(20)
		var equal, shifted [][]byte
		for i := range n {
			equal = append(equal, memory[:9])
			shifted = append(shifted, memory[i:i+9])
		}
		before := slices.Clone(memory)
		for _, shards := range [][][]byte{equal, shifted} {
			apart := deepCopy(shards)
			for parity := range n {
				want := parityOf(apart, parity)
				got, e := erasure.Parity(shards, parity)
				if !same(got, want) || e != api.OK {
					t.Errorf("%d parity shards of %v: %v %d instead of %v", parity, apart, got, e, want)
				}
				checkReconstruct(t, shards, r.choice(n, n-parity), parity)
				checkReconstruct(t, shards, all(n), parity)
				if got, want := erasure.Check(shards, parity), same(apart[n-parity:], parityOf(apart[:n-parity], parity)); got != want {
					t.Errorf("%v with %d parity shards: %t", apart, parity, got)
				}
			}
			changed, e := erasure.Update(shards, 3, 1, shards[0], shards[1])
			if want := updated(apart, 3, 1, apart[0], apart[1]); !same(changed, want) || e != api.OK {
				t.Errorf("%v with the first one changed to the second one: %v %d instead of %v", apart, changed, e, want)
			}
			if !scribble(changed) || !bytes.Equal(memory, before) || !same(shards, apart) {
				t.Fatalf("%v has become %v", apart, shards)
			}
			if got, e := erasure.Join(shards, 9*n); !bytes.Equal(got, bytes.Join(apart, nil)) || e != api.OK {
				t.Errorf("%v joined: %v %d", apart, got, e)
			}
		}
	}
}
