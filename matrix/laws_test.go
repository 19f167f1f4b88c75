package matrix_test

import (
	"bytes"
	"slices"
	"testing"

	"tapearchive/matrix"
)

// times returns the product of two matrices that fit.
func times(t *testing.T, a, b [][]byte) [][]byte {
	product, ok := matrix.Mul(a, b)
	if !ok {
		t.Fatalf("%d by %d times %d by %d: no product", len(a), len(a[0]), len(b), len(b[0]))
	}
	return product
}

// P5.6: square matrices of all sizes, with and without an inverse
func TestInverses(t *testing.T) {
	var r random
	for n := 1; n <= 64; n++ {
		for _, m := range [][][]byte{r.matrix(n, n, 2), r.matrix(n, n, 256), r.ofRank(n, n, n, 2), r.ofRank(n, n, n, 256), r.ofRank(n, n, n-1, 256), r.ofRank(n, n, n/2, 2)} {
			inverse, ok := matrix.Invert(m)
			rank := matrix.Rank(m)
			if ok != (rank == n) {
				t.Fatalf("%v: inverse %t, rank %d", m, ok, rank)
			}
			if !ok {
				continue
			}
			if !same(times(t, m, inverse), unit(n)) || !same(times(t, inverse, m), unit(n)) {
				t.Errorf("%v times %v: not the identity matrix", m, inverse)
			}
			if back, ok := matrix.Invert(inverse); !same(back, m) || !ok {
				t.Errorf("%v: the inverse of the inverse is %v %t", m, back, ok)
			}
			if got := matrix.Rank(inverse); got != n {
				t.Errorf("%v: the rank of the inverse is %d", m, got)
			}
		}
	}
}

// P5.6: many small matrices with many zeros, such that rows are often dependent
func TestManyInverses(t *testing.T) {
	var r random
	for range 4000 {
		n := 1 + r.below(6)
		m := r.matrix(n, n, 2+r.below(3))
		inverse, ok := matrix.Invert(m)
		if rank := matrix.Rank(m); ok != (rank == n) {
			t.Fatalf("%v: inverse %t, rank %d", m, ok, rank)
		}
		if ok && (!same(productOf(m, inverse), unit(n)) || !same(productOf(inverse, m), unit(n))) {
			t.Fatalf("%v times %v: not the identity matrix", m, inverse)
		}
	}
}

// P5.6: the inverse of a product is the product of the inverses, in the other order.
func TestInversesOfProducts(t *testing.T) {
	var r random
	for _, n := range sizes {
		a, b := r.ofRank(n, n, n, 256), r.ofRank(n, n, n, 256)
		first, _ := matrix.Invert(a)
		second, _ := matrix.Invert(b)
		if got, ok := matrix.Invert(times(t, a, b)); !ok || !same(got, times(t, second, first)) {
			t.Errorf("%v times %v: the inverse %v %t", a, b, got, ok)
		}
	}
}

// checkMinor checks that a square part of a Cauchy matrix has an inverse.
func checkMinor(t *testing.T, m [][]byte, rows, columns []int) {
	minor := part(m, rows, columns)
	inverse, ok := matrix.Invert(minor)
	if !ok || !same(productOf(minor, inverse), unit(len(rows))) {
		t.Errorf("the rows %v and the columns %v of a matrix of %d by %d: %v %t", rows, columns, len(m), len(m[0]), inverse, ok)
	}
	if got := matrix.Rank(minor); got != len(rows) {
		t.Errorf("the rows %v and the columns %v of a matrix of %d by %d: the rank %d", rows, columns, len(m), len(m[0]), got)
	}
}

// P5.7: all square parts of small Cauchy matrices
func TestAllMinors(t *testing.T) {
	for rows := 1; rows <= 5; rows++ {
		for columns := 1; columns <= 6; columns++ {
			m, _ := matrix.Cauchy(rows, columns)
			for _, some := range subsets(rows) {
				for _, others := range subsets(columns) {
					if len(some) == len(others) && len(some) > 0 {
						checkMinor(t, m, some, others)
					}
				}
			}
		}
	}
}

// P5.7: all elements, and some square parts, of all greater Cauchy matrices, in any order of rows and columns
func TestSomeMinors(t *testing.T) {
	var r random
	for rows := 1; rows < 64; rows++ {
		for columns := 1; rows+columns <= 64; columns++ {
			m, ok := matrix.Cauchy(rows, columns)
			if !ok {
				t.Fatalf("%d by %d: no matrix", rows, columns)
			}
			for _, row := range m {
				if slices.Contains(row, 0) {
					t.Errorf("%d by %d: an element is 0", rows, columns)
				}
			}
			n := 1 + r.below(min(rows, columns, 12))
			checkMinor(t, m, r.order(rows)[:n], r.order(columns)[:n])
		}
	}
	m, _ := matrix.Cauchy(32, 32)
	checkMinor(t, m, r.order(32), r.order(32))
}

// P5.7, as the erasure codes need it: any rows of the identity matrix followed by a Cauchy matrix, as many as there are columns, have an inverse.
func TestRowsOfIdentityAndCauchy(t *testing.T) {
	for columns := 1; columns <= 5; columns++ {
		for rows := 1; rows <= 4; rows++ {
			m, _ := matrix.Cauchy(rows, columns)
			m = append(matrix.Identity(columns), m...)
			for _, some := range subsets(len(m)) {
				if len(some) != columns {
					continue
				}
				var list [][]byte
				for _, row := range some {
					list = append(list, m[row])
				}
				if inverse, ok := matrix.Invert(list); !ok || !same(productOf(list, inverse), unit(columns)) {
					t.Errorf("%v: %v %t", list, inverse, ok)
				}
			}
		}
	}
}

// P5.8: products of three factors, and the ranks of products, with factors of all sizes and many ranks
func TestComposition(t *testing.T) {
	var r random
	for range 300 {
		rows, inner, columns := 1+r.below(64), 1+r.below(64), 1+r.below(64)
		if r.below(2) == 0 {
			rows, inner, columns = 1+rows%5, 1+inner%5, 1+columns%5
		}
		a := r.ofRank(rows, inner, r.below(min(rows, inner)+1), 256)
		b := r.ofRank(inner, columns, r.below(min(inner, columns)+1), 256)
		product := times(t, a, b)
		v := r.list(columns, 256)
		want, _ := matrix.Apply(product, v)
		inside, _ := matrix.Apply(b, v)
		if got, ok := matrix.Apply(a, inside); !bytes.Equal(got, want) || !ok {
			t.Errorf("%v times %v times %v: %v %t instead of %v", a, b, v, got, ok, want)
		}
		c := r.matrix(columns, 1+r.below(8), 256)
		if !same(times(t, product, c), times(t, a, times(t, b, c))) {
			t.Errorf("%v times %v times %v: not associative", a, b, c)
		}
		if got, most := matrix.Rank(product), min(matrix.Rank(a), matrix.Rank(b)); got > most {
			t.Errorf("%v times %v: the rank %d instead of at most %d", a, b, got, most)
		}
	}
}

// P5.8: a factor with an inverse changes no rank, and neither do exchanged rows and columns.
func TestRanksThatStay(t *testing.T) {
	var r random
	for range 60 {
		rows, columns := 1+r.below(40), 1+r.below(40)
		rank := r.below(min(rows, columns) + 1)
		m := r.ofRank(rows, columns, rank, 3)
		for _, other := range [][][]byte{
			m, turned(m), part(m, r.order(rows), r.order(columns)), times(t, r.ofRank(rows, rows, rows, 256), m), times(t, m, r.ofRank(columns, columns, columns, 256)),
		} {
			if got := matrix.Rank(other); got != rank {
				t.Errorf("%v: the rank %d instead of %d", other, got, rank)
			}
		}
	}
}

// P5.2 and P5.8: the identity matrix is neutral, and Apply is Mul with a matrix of one column.
func TestNeutralFactors(t *testing.T) {
	var r random
	for _, rows := range sizes {
		for _, columns := range sizes {
			m, v := r.matrix(rows, columns, 256), r.list(columns, 256)
			if !same(times(t, matrix.Identity(rows), m), m) || !same(times(t, m, matrix.Identity(columns)), m) {
				t.Errorf("%d by %d: changed by the identity matrix", rows, columns)
			}
			if got, ok := matrix.Apply(matrix.Identity(columns), v); !bytes.Equal(got, v) || !ok {
				t.Errorf("%v: changed by the identity matrix to %v %t", v, got, ok)
			}
			if got, ok := matrix.Apply(m, v); !same(columnOf(got), times(t, m, columnOf(v))) || !ok {
				t.Errorf("%v times %v: %v %t", m, v, got, ok)
			}
		}
	}
}
