package cartridge_test

import (
	"fmt"
	"slices"
	"testing"

	"tapearchive/api"
	"tapearchive/cartridge"
)

// call is a call of one of the functions that take blocks; the result is given as a cartridge, for Read as one with its blocks.
type call struct {
	name string
	do   func(c api.Cartridge, l []api.Block) (api.Cartridge, api.Errno)
}

// calls returns calls of all these functions, for cartridges of up to n blocks, with and without errors.
func calls(n int) []call {
	list := []call{
		{"Erase", func(c api.Cartridge, _ []api.Block) (api.Cartridge, api.Errno) { return cartridge.Erase(c) }},
		{"Valid", func(c api.Cartridge, _ []api.Block) (api.Cartridge, api.Errno) {
			cartridge.Valid(c)
			return api.Cartridge{}, api.OK
		}},
		{"Free", func(c api.Cartridge, _ []api.Block) (api.Cartridge, api.Errno) {
			return api.Cartridge{Epoch: cartridge.Free(c)}, api.OK
		}},
	}
	for a := -1; a <= n+1; a++ {
		list = append(list, call{fmt.Sprint("Write at ", a), func(c api.Cartridge, l []api.Block) (api.Cartridge, api.Errno) { return cartridge.Write(c, a, l) }})
		for b := -1; b <= n+1; b++ {
			s := api.Span{From: a, Count: b}
			list = append(list,
				call{fmt.Sprintf("Read of %+v", s), func(c api.Cartridge, _ []api.Block) (api.Cartridge, api.Errno) {
					l, e := cartridge.Read(c, s)
					return api.Cartridge{Blocks: l}, e
				}},
				call{fmt.Sprintf("Damage of %+v", s), func(c api.Cartridge, _ []api.Block) (api.Cartridge, api.Errno) {
					return cartridge.Damage(c, s), api.OK
				}},
				call{fmt.Sprintf("Marks %d from %d", b, a), func(c api.Cartridge, _ []api.Block) (api.Cartridge, api.Errno) {
					n, e := cartridge.Marks(c, a, b)
					return api.Cartridge{Epoch: n}, e
				}})
		}
	}
	return list
}

// roomy returns blocks with room behind them, and behind their bytes, and the memory that all of them are in.
func roomy(letters string) ([]api.Block, []api.Block) {
	memory := blocks(letters + "zykma")
	for i, b := range memory {
		memory[i].Data = append(b.Data, "what follows the bytes"...)
	}
	list := slices.Clone(memory)
	for i := range list {
		list[i].Data = list[i].Data[:len(list[i].Data)-22]
	}
	return list[:len(letters)], memory
}

// whole returns all that is in the memory of blocks: also what is behind their ends.
func whole(l []api.Block) []api.Block {
	list := slices.Clone(l[:cap(l)])
	for i, b := range list {
		list[i].Data = b.Data[:cap(b.Data)]
	}
	return list
}

// spoil changes all that is in the memory of blocks.
func spoil(l []api.Block) {
	for _, b := range whole(l) {
		for i := range b.Data {
			b.Data[i] = ^b.Data[i]
		}
	}
	for i := range l[:cap(l)] {
		l[:cap(l)][i] = api.Block{Bad: true, Data: []byte("spoilt")}
	}
}

// checkOwn checks that no two blocks of a list share memory.
func checkOwn(t *testing.T, what string, l []api.Block) {
	t.Helper()
	for i, b := range l {
		before := clonedBlocks(l)
		for k := range b.Data[:cap(b.Data)] {
			b.Data[:cap(b.Data)][k]++
		}
		for k := range l {
			if k != i && !sameBlocks(l[k:k+1], before[k:k+1]) {
				t.Errorf("%s: the blocks %d and %d share memory", what, i, k)
			}
		}
		for k := range b.Data[:cap(b.Data)] {
			b.Data[:cap(b.Data)][k]--
		}
	}
}

// checkMemory checks a call with blocks that have room behind them.
func checkMemory(t *testing.T, f call, flags api.Cartridge, letters, more string) {
	t.Helper()
	what := fmt.Sprintf("%s, %s with %s", f.name, letters, more)
	c, fresh := flags, flags
	fresh.Blocks = blocks(letters)
	want, wantError := f.do(fresh, blocks(more))
	c.Blocks, _ = roomy(letters)
	l, _ := roomy(more)
	cBefore, lBefore := clonedBlocks(whole(c.Blocks)), clonedBlocks(whole(l))
	got, e := f.do(c, l)
	again, _ := f.do(c, l)
	if !same(got, want) || e != wantError {
		t.Errorf("%s: %s, %d, want %s, %d", what, name(got), e, name(want), wantError)
	}
	checkOwn(t, what, got.Blocks)
	spoil(again.Blocks)
	if !same(got, want) {
		t.Errorf("%s: two results share memory", what)
	}
	if !sameBlocks(whole(c.Blocks), cBefore) || !sameBlocks(whole(l), lBefore) {
		t.Errorf("%s: the arguments have changed, or a result shares memory with them", what)
	}
	spoil(c.Blocks)
	spoil(l)
	if !same(got, want) {
		t.Errorf("%s: the result shares memory with the arguments", what)
	}
}

// R3: no function changes its arguments, also behind their ends, and the results are new memory.
func TestNoSharedMemory(t *testing.T) {
	for _, f := range calls(5) {
		for _, letters := range []string{"", "z", "amczm", "aMCzm", "m", "MMb"} {
			for _, more := range []string{"", "x", "mzk", "zzzzzzzz", "zZ"} {
				for _, flags := range []api.Cartridge{holding(6, ""), once(6, ""), locked(6, "")} {
					checkMemory(t, f, flags, letters, more)
				}
				checkMemory(t, f, holding(2, ""), letters, more) // of which some are not valid
			}
		}
	}
}

// R3: several cartridges that are made from the same one do not know of each other.
func TestBranches(t *testing.T) {
	var r random
	c, letters := holding(400, ""), ""
	for range 60 {
		part := r.letters(1+r.below(4), "amz")
		at := r.below(len(letters) + 1)
		next, e := cartridge.Write(c, len(letters), blocks(part))
		first, firstError := cartridge.Write(c, at, blocks("kkk"))
		second, secondError := cartridge.Write(c, at, blocks("bb"))
		bad := cartridge.Damage(c, api.Span{From: 0, Count: len(letters)})
		copied, copyError := cartridge.Write(c, at, nil)
		if e != api.OK || firstError != api.OK || secondError != api.OK || copyError != api.OK {
			t.Fatal(e, firstError, secondError, copyError)
		}
		for _, x := range []struct {
			c    api.Cartridge
			want string
		}{{c, letters}, {next, letters + part}, {first, letters[:at] + "kkk"}, {second, letters[:at] + "bb"}, {copied, letters}} {
			if got := text(x.c.Blocks); got != x.want {
				t.Fatalf("at %d of %s: %s, want %s", at, letters, got, x.want)
			}
		}
		spoil(bad.Blocks)
		spoil(copied.Blocks)
		spoil(first.Blocks)
		if text(c.Blocks) != letters || text(second.Blocks) != letters[:at]+"bb" {
			t.Fatalf("at %d of %s: %s, %s", at, letters, text(c.Blocks), text(second.Blocks))
		}
		c, letters = next, letters+part
	}
}

// R3: the blocks that are written may be those of the cartridge itself.
func TestOwnBlocks(t *testing.T) {
	for at := range 6 {
		for from := range 6 {
			for to := from; to <= 5; to++ {
				c := holding(20, "amczm")
				d, e := cartridge.Write(c, at, c.Blocks[from:to])
				want := "amczm"
				if to > from {
					want = want[:at] + want[from:to]
				}
				if e != api.OK || text(d.Blocks) != want || text(c.Blocks) != "amczm" {
					t.Errorf("the blocks %d to %d at %d: %s, %d, want %s", from, to, at, text(d.Blocks), e, want)
				}
				checkOwn(t, "own blocks", d.Blocks)
				spoil(c.Blocks)
				if text(d.Blocks) != want {
					t.Errorf("the blocks %d to %d at %d: the result shares memory with the argument", from, to, at)
				}
			}
		}
	}
}

// R3: one block many times in one list
func TestRepeatedBlocks(t *testing.T) {
	b := blocks("z")[0]
	c := holding(9, "")
	c.Blocks = []api.Block{b, b, b}
	d, e := cartridge.Write(c, 3, []api.Block{b, b})
	if e != api.OK || text(d.Blocks) != "zzzzz" {
		t.Fatalf("%s, %d", text(d.Blocks), e)
	}
	checkOwn(t, "Write", d.Blocks)
	l, _ := cartridge.Read(c, api.Span{From: 0, Count: 3})
	checkOwn(t, "Read", l)
	checkOwn(t, "Damage", cartridge.Damage(c, api.Span{From: 1, Count: 1}).Blocks)
}
