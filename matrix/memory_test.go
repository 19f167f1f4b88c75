package matrix_test

import (
	"bytes"
	"slices"
	"testing"

	"tapearchive/matrix"
)

// layout returns the rows of m as parts of one memory, one directly behind the other, in a list with more rows behind its length.
func layout(m [][]byte) (list [][]byte, memory []byte) {
	for _, row := range m {
		memory = append(memory, row...)
	}
	memory = append(memory, 98, 98, 98, 98)
	rest := memory
	for _, row := range m {
		list = append(list, rest[:len(row)])
		rest = rest[len(row):]
	}
	return append(list, rest, nil)[:len(m)], memory
}

// scribble changes all bytes of each row of m, and those that fit behind it, and reports whether no other row has changed by that.
func scribble(m [][]byte) bool {
	own := true
	for i := range m {
		before := deepCopy(m)
		row := m[i][:cap(m[i])]
		for k := range row {
			row[k] ^= 255
		}
		for j := range m {
			own = own && (i == j || bytes.Equal(m[j], before[j]))
		}
	}
	rows := m[:cap(m)]
	for i := range rows {
		rows[i] = []byte{97}
	}
	return own
}

// call is one of the functions with its arguments; a vector is given as the only row of a list.
type call struct {
	name string
	do   func(lists [][][]byte) ([][]byte, bool)
}

// calls returns all functions that take lists.
func calls() []call {
	return []call{
		{"Mul", func(lists [][][]byte) ([][]byte, bool) { return matrix.Mul(lists[0], lists[1]) }},
		{"Apply", func(lists [][][]byte) ([][]byte, bool) {
			v, ok := matrix.Apply(lists[0], lists[1][0])
			return [][]byte{v}, ok
		}},
		{"Invert", func(lists [][][]byte) ([][]byte, bool) { return matrix.Invert(lists[0]) }},
		{"Rank", func(lists [][][]byte) ([][]byte, bool) { return [][]byte{{byte(matrix.Rank(lists[0]))}}, true }},
		{"Valid", func(lists [][][]byte) ([][]byte, bool) { return nil, matrix.Valid(lists[0]) && matrix.Valid(lists[1]) }},
	}
}

// arguments returns pairs of lists that fit, that do not fit, and that are not valid.
func arguments() [][2][][]byte {
	var r random
	list := [][2][][]byte{
		{{{2}}, {{3}}}, {unit(1), unit(1)}, {unit(5), unit(5)}, {unit(64), unit(64)},
		{{{1, 2}, {2, 4}}, {{5, 6}}}, {{{0, 1}, {1, 0}}, {{5, 6}, {7, 8}}}, {{{0, 0}, {0, 0}}, {{5, 6}}}, {{{1, 2}, {3}}, {{5, 6}}},
	}
	for _, n := range []int{1, 2, 3, 16, 64} {
		list = append(list, [2][][]byte{r.ofRank(n, n, n, 256), r.matrix(n, 3, 256)}, [2][][]byte{r.ofRank(n, n, n/2, 256), r.matrix(1, n, 256)})
		list = append(list, [2][][]byte{r.matrix(3, n, 256), r.matrix(n, 2, 2)}, [2][][]byte{r.matrix(n, 4, 2), r.matrix(4, n, 256)})
	}
	return list
}

// R3: the arguments stay as they are, with rows that lie in one memory and have room behind them, and the results are new memory.
func TestNoSharedMemory(t *testing.T) {
	for _, pair := range arguments() {
		for _, c := range calls() {
			first, memory := layout(pair[0])
			second, other := layout(pair[1])
			lists := [][][]byte{first, second}
			want, is := c.do([][][]byte{deepCopy(pair[0]), deepCopy(pair[1])})
			got, ok := c.do(lists)
			again, _ := c.do(lists)
			if !same(got, want) || ok != is {
				t.Errorf("%s(%v): %v %t instead of %v %t", c.name, pair, got, ok, want, is)
			}
			if !scribble(again) {
				t.Errorf("%s(%v): two rows of the result share memory", c.name, pair)
			}
			if !same(got, want) {
				t.Errorf("%s(%v): two results share memory", c.name, pair)
			}
			checkUnchanged(t, c.name, pair[0], first, memory)
			checkUnchanged(t, c.name, pair[1], second, other)
			clear(memory)
			clear(other)
			if !same(got, want) {
				t.Errorf("%s(%v): the result shares memory with an argument", c.name, pair)
			}
		}
	}
}

// checkUnchanged checks that a list that layout has made from m, and its memory, also behind the list and its rows, are as before.
func checkUnchanged(t *testing.T, name string, m, list [][]byte, memory []byte) {
	before, bytesBefore := layout(m)
	more := len(m) + 2
	if !bytes.Equal(memory, bytesBefore) || !same(list[:more], before[:more]) {
		t.Errorf("%s: %v has become %v in %v", name, m, list[:more], memory)
		return
	}
	at := 0
	for i, row := range list {
		if &row[0] != &memory[at] {
			t.Errorf("%s: row %d of %v is now another one", name, i, m)
		}
		at += len(row)
	}
}

// R3: the results of Identity and Cauchy have memory of their own in each call and each row.
func TestNewMatrices(t *testing.T) {
	for n := 1; n <= 63; n++ {
		identity, one := matrix.Identity(n), matrix.Identity(n)
		cauchy, _ := matrix.Cauchy(n, 64-n)
		other, _ := matrix.Cauchy(n, 64-n)
		before := deepCopy(cauchy)
		if !scribble(one) || !scribble(other) {
			t.Errorf("%d: two rows of the result share memory", n)
		}
		if again := matrix.Identity(n); !same(identity, unit(n)) || !same(again, unit(n)) {
			t.Errorf("%d: two results of Identity share memory", n)
		}
		if again, _ := matrix.Cauchy(n, 64-n); !same(cauchy, before) || !same(again, before) {
			t.Errorf("%d: two results of Cauchy share memory", n)
		}
	}
}

// P5.2 to P5.4: two rows, or more, are the same slice or overlap, and both factors are the same matrix.
func TestRowsInOneMemory(t *testing.T) {
	var r random
	for _, n := range []int{2, 3, 4, 64} {
		memory := r.list(2*n, 256)
		var equal, shifted [][]byte
		for i := range n {
			equal = append(equal, memory[:n])
			shifted = append(shifted, memory[i:i+n])
		}
		mixed := append(slices.Clone(shifted[1:]), shifted[1])
		before := slices.Clone(memory)
		for _, m := range [][][]byte{equal, shifted, mixed} {
			apart := deepCopy(m)
			product, ok := matrix.Mul(m, m)
			if !same(product, productOf(apart, apart)) || !ok {
				t.Errorf("%v: times itself %v %t", apart, product, ok)
			}
			applied, ok := matrix.Apply(m, m[0])
			if !bytes.Equal(applied, turned(productOf(apart, columnOf(apart[0])))[0]) || !ok {
				t.Errorf("%v: times its row 0 %v %t", apart, applied, ok)
			}
			want, is := matrix.Invert(apart)
			inverse, ok := matrix.Invert(m)
			if !same(inverse, want) || ok != is {
				t.Errorf("%v: the inverse %v %t instead of %v %t", apart, inverse, ok, want, is)
			}
			if got, want := matrix.Rank(m), matrix.Rank(apart); got != want {
				t.Errorf("%v: the rank %d instead of %d", apart, got, want)
			}
			if !scribble(product) || ok && !scribble(inverse) {
				t.Errorf("%v: two rows of a result share memory", apart)
			}
			if !bytes.Equal(memory, before) || !same(m, apart) {
				t.Fatalf("%v has become %v", apart, m)
			}
		}
		if got := matrix.Rank(equal); got != 1 {
			t.Errorf("%v: the rank %d instead of 1", equal, got)
		}
		if got := matrix.Rank(mixed); got != n-1 {
			t.Errorf("%v: the rank %d instead of %d", mixed, got, n-1)
		}
		if got, ok := matrix.Invert(mixed); got != nil || ok {
			t.Errorf("%v: the inverse %v %t", mixed, got, ok)
		}
	}
}
