package matrix_test

import (
	"bytes"
	"math"
	"slices"
	"testing"

	"tapearchive/field"
	"tapearchive/matrix"
)

// sizes are the numbers of rows and of columns that are tried in all combinations.
var sizes = []int{1, 2, 3, 7, 63, 64}

// random is a sequence of numbers that is the same in each run.
type random uint32

// below returns the next number, from 0 to n - 1.
func (r *random) below(n int) int {
	*r = *r*1664525 + 1013904223
	return int(*r>>8) % n
}

// list returns n bytes less than limit.
func (r *random) list(n, limit int) []byte {
	list := make([]byte, n)
	for i := range list {
		list[i] = byte(r.below(limit))
	}
	return list
}

// matrix returns a matrix whose elements are less than limit.
func (r *random) matrix(rows, columns, limit int) [][]byte {
	m := make([][]byte, rows)
	for i := range m {
		m[i] = r.list(columns, limit)
	}
	return m
}

// order returns the numbers from 0 to n - 1 in any order.
func (r *random) order(n int) []int {
	order := make([]int, n)
	for i := range order {
		order[i] = i
		j := r.below(i + 1)
		order[i], order[j] = order[j], order[i]
	}
	return order
}

// same reports whether two matrices are equal; nil and empty ones are.
func same(a, b [][]byte) bool { return slices.EqualFunc(a, b, bytes.Equal) }

// deepCopy returns a copy of a matrix, with memory of its own for each row.
func deepCopy(m [][]byte) [][]byte {
	var list [][]byte
	for _, row := range m {
		list = append(list, slices.Clone(row))
	}
	return list
}

// part returns the matrix of the rows and columns of m with these numbers, in their order.
func part(m [][]byte, rows, columns []int) [][]byte {
	list := make([][]byte, len(rows))
	for i, row := range rows {
		for _, column := range columns {
			list[i] = append(list[i], m[row][column])
		}
	}
	return list
}

// turned returns m with its columns as rows.
func turned(m [][]byte) [][]byte {
	list := make([][]byte, len(m[0]))
	for _, row := range m {
		for j, element := range row {
			list[j] = append(list[j], element)
		}
	}
	return list
}

// productOf follows P5.2 literally.
func productOf(a, b [][]byte) [][]byte {
	product := zeros(len(a), len(b[0]))
	for i := range a {
		for j := range b[0] {
			for k := range b {
				product[i][j] ^= field.Mul(a[i][k], b[k][j])
			}
		}
	}
	return product
}

// columnOf returns the matrix with v as its only column.
func columnOf(v []byte) [][]byte {
	var list [][]byte
	for _, element := range v {
		list = append(list, []byte{element})
	}
	return list
}

// zeros returns a matrix of zeros.
func zeros(rows, columns int) [][]byte {
	m := make([][]byte, rows)
	for i := range m {
		m[i] = make([]byte, columns)
	}
	return m
}

// unit returns the identity matrix, by its definition.
func unit(n int) [][]byte {
	m := zeros(n, n)
	for i := range m {
		m[i][i] = 1
	}
	return m
}

// without returns m without one row and one column.
func without(m [][]byte, row, column int) [][]byte {
	list := slices.Delete(deepCopy(m), row, row+1)
	for i := range list {
		list[i] = slices.Delete(list[i], column, column+1)
	}
	return list
}

// determinant is developed along the first row; no signs are needed, since each element is its own negative.
func determinant(m [][]byte) byte {
	if len(m) == 0 {
		return 1
	}
	sum := byte(0)
	for j, element := range m[0] {
		if element != 0 {
			sum ^= field.Mul(element, determinant(without(m, 0, j)))
		}
	}
	return sum
}

// inverseOf returns the inverse by Cramer's rule, for small matrices.
func inverseOf(m [][]byte) ([][]byte, bool) {
	by, ok := field.Inv(determinant(m))
	if !ok {
		return nil, false
	}
	inverse := unit(len(m))
	for i := range m {
		for j := range m {
			inverse[i][j] = field.Mul(by, determinant(without(m, j, i)))
		}
	}
	return inverse, true
}

// subsets returns all lists of numbers from 0 to n - 1, ascending.
func subsets(n int) [][]int {
	list := [][]int{nil}
	for number := range n {
		for _, shorter := range slices.Clone(list) {
			list = append(list, append(slices.Clone(shorter), number))
		}
	}
	return list
}

// rankByMinors returns the greatest number of rows of a square part whose determinant is not 0, for small matrices.
func rankByMinors(m [][]byte) int {
	rank := 0
	for _, rows := range subsets(len(m)) {
		for _, columns := range subsets(len(m[0])) {
			if len(rows) == len(columns) && len(rows) > rank && determinant(part(m, rows, columns)) != 0 {
				rank = len(rows)
			}
		}
	}
	return rank
}

// sumOfMultiples reports whether row is a sum of multiples of the others, by trying all multiples.
func sumOfMultiples(row []byte, others [][]byte) bool {
	if len(others) == 0 {
		return bytes.Equal(row, make([]byte, len(row)))
	}
	for by := range 256 {
		if sumOfMultiples(field.Scale(row, others[0], byte(by)), others[1:]) {
			return true
		}
	}
	return false
}

// rankByDefinition follows P5.4 literally, for at most three rows.
func rankByDefinition(m [][]byte) int {
	rank := 0
	for _, numbers := range subsets(len(m)) {
		independent := true
		for i, number := range numbers {
			var others [][]byte
			for _, other := range slices.Delete(slices.Clone(numbers), i, i+1) {
				others = append(others, m[other])
			}
			independent = independent && !sumOfMultiples(m[number], others)
		}
		if independent {
			rank = max(rank, len(numbers))
		}
	}
	return rank
}

// ofRank returns a matrix with this rank: the product of two that contain the identity matrix of this size, with its rows and its columns in any order.
func (r *random) ofRank(rows, columns, rank, limit int) [][]byte {
	if rank == 0 {
		return zeros(rows, columns)
	}
	left := append(unit(rank), r.matrix(rows-rank, rank, limit)...)
	right := append(unit(rank), r.matrix(columns-rank, rank, limit)...)
	return part(productOf(left, turned(right)), r.order(rows), r.order(columns))
}

// invalid returns lists that are no valid matrices.
func invalid() [][][]byte {
	short, long := unit(64), unit(64)
	short[63] = short[63][:63]
	long[63] = append(long[63], 0)
	first := unit(64)
	first[0] = first[0][:1]
	return [][][]byte{
		nil, {}, {nil}, {{}}, {nil, nil}, {{}, {}}, {nil, {}}, {{}, {1}}, {{1}, {}}, {{1}, nil}, {nil, {1}},
		{{1}, {1, 2}}, {{1, 2}, {1}}, {{1, 2}, {3, 4}, {5}}, {{1, 2}, {3}, {5, 6}}, {{1, 2}, {3, 4}, {5, 6, 7}}, {{1, 2}, {3, 4, 5}, {6, 7}},
		{{1, 0}, {0, 1}, nil}, {{1, 0}, {0, 1}, {}}, zeros(1, 0), zeros(2, 0), zeros(64, 0), zeros(65, 0), zeros(1, 65), zeros(1, 66), zeros(1, 256), zeros(1, 257), zeros(2, 65), zeros(64, 65),
		zeros(65, 1), zeros(66, 1), zeros(256, 1), zeros(257, 1), zeros(65, 64), unit(65), unit(65)[:64], make([][]byte, 64), make([][]byte, 65), short, long, first,
	}
}

// P5.1
func TestIdentity(t *testing.T) {
	for n := 1; n <= 64; n++ {
		m := matrix.Identity(n)
		if len(m) != n {
			t.Fatalf("%d: %d rows", n, len(m))
		}
		for i, row := range m {
			if len(row) != n {
				t.Fatalf("%d: row %d has %d elements", n, i, len(row))
			}
			for j, element := range row {
				if (i == j) != (element == 1) || (i != j) != (element == 0) {
					t.Errorf("%d: row %d, column %d: %d", n, i, j, element)
				}
			}
		}
	}
	for _, n := range []int{math.MinInt, math.MinInt + 1, -1 << 32, -256, -65, -64, -2, -1, 0, 65, 66, 128, 256, 257, 1 << 32, 1<<32 + 1, math.MaxInt - 1, math.MaxInt} {
		if m := matrix.Identity(n); m != nil {
			t.Errorf("%d: %v", n, m)
		}
	}
}

// P5.1
func TestValid(t *testing.T) {
	for rows := 1; rows <= 66; rows++ {
		for columns := range 67 {
			m := zeros(rows, columns)
			want := rows <= 64 && columns >= 1 && columns <= 64
			if got := matrix.Valid(m); got != want {
				t.Errorf("%d rows, %d columns: %t", rows, columns, got)
			}
		}
	}
	for _, m := range invalid() {
		if matrix.Valid(m) {
			t.Errorf("%v: valid", m)
		}
	}
	for _, m := range [][][]byte{{{0}}, {{1, 2}, {3, 4}}, {{1, 2, 3}}, {{1}, {2}, {3}}, unit(64)} {
		if !matrix.Valid(m) {
			t.Errorf("%v: not valid", m)
		}
	}
}

// P5.1: one row of a list has another length, whichever row it is.
func TestValidOtherLength(t *testing.T) {
	for _, rows := range []int{2, 3, 63, 64} {
		for i := range rows {
			for _, length := range []int{0, 1, 4, 6, 64, 65} {
				var r random
				m := r.matrix(rows, 5, 256)
				m[i] = make([]byte, length)
				if matrix.Valid(m) {
					t.Errorf("%d rows of 5 elements, but %d elements in row %d: valid", rows, length, i)
				}
			}
		}
	}
}

// P5.2, and example 1
func TestMulKnownProducts(t *testing.T) {
	for _, c := range []struct{ a, b, want [][]byte }{
		{[][]byte{{3}}, [][]byte{{7}}, [][]byte{{9}}},
		{[][]byte{{2}}, [][]byte{{142}}, [][]byte{{1}}},
		{[][]byte{{1, 2}, {3, 4}}, [][]byte{{5}, {6}}, [][]byte{{9}, {23}}},
		{[][]byte{{1, 2}, {3, 4}}, [][]byte{{1, 0}, {0, 1}}, [][]byte{{1, 2}, {3, 4}}},
		{[][]byte{{1, 0}, {0, 1}}, [][]byte{{1, 2}, {3, 4}}, [][]byte{{1, 2}, {3, 4}}},
		{[][]byte{{0, 1}, {1, 0}}, [][]byte{{1, 2}, {3, 4}}, [][]byte{{3, 4}, {1, 2}}},
		{[][]byte{{1, 2}, {3, 4}}, [][]byte{{0, 1}, {1, 0}}, [][]byte{{2, 1}, {4, 3}}},
		{[][]byte{{5, 6}}, [][]byte{{1, 2}, {3, 4}}, [][]byte{{15, 18}}},
		{[][]byte{{2}, {4}}, [][]byte{{1, 2, 128}}, [][]byte{{2, 4, 29}, {4, 8, 58}}},
		{[][]byte{{1, 1, 1}}, [][]byte{{1}, {2}, {4}}, [][]byte{{7}}},
		{[][]byte{{1, 1}}, [][]byte{{9}, {9}}, [][]byte{{0}}},
		{[][]byte{{0, 0}}, [][]byte{{1, 2, 3}, {4, 5, 6}}, [][]byte{{0, 0, 0}}},
	} {
		if got, ok := matrix.Mul(c.a, c.b); !same(got, c.want) || !ok {
			t.Errorf("%v * %v: %v %t instead of %v", c.a, c.b, got, ok, c.want)
		}
	}
}

// P5.2: all sizes, with one row, one column and 64 of both
func TestMulFollowsDefinition(t *testing.T) {
	var r random
	for _, rows := range sizes {
		for _, inner := range sizes {
			for _, columns := range sizes {
				a, b := r.matrix(rows, inner, 256), r.matrix(inner, columns, 256)
				if got, ok := matrix.Mul(a, b); !same(got, productOf(a, b)) || !ok {
					t.Errorf("%d by %d times %d by %d: %v %t", rows, inner, inner, columns, got, ok)
				}
			}
		}
	}
}

// P5.2: the sizes do not fit.
func TestMulOtherSizes(t *testing.T) {
	for _, rows := range sizes {
		for _, inner := range sizes {
			for _, other := range sizes {
				for _, columns := range sizes {
					var r random
					got, ok := matrix.Mul(r.matrix(rows, inner, 256), r.matrix(other, columns, 256))
					if ok != (inner == other) || (got == nil) == ok {
						t.Errorf("%d by %d times %d by %d: %d rows, %t", rows, inner, other, columns, len(got), ok)
					}
				}
			}
		}
	}
}

// P5.2: one factor or both are not valid, also where the numbers of rows and columns seem to fit.
func TestMulInvalid(t *testing.T) {
	var r random
	valid := [][][]byte{{{1}}, {{1, 2}, {3, 4}}, {{1, 2}}, {{1}, {2}}, unit(3), unit(64), r.matrix(1, 64, 256), r.matrix(64, 1, 256), r.matrix(64, 2, 256)}
	for _, m := range invalid() {
		for _, other := range append(valid, m, nil) {
			if got, ok := matrix.Mul(m, other); got != nil || ok {
				t.Errorf("%v * %v: %v %t", m, other, got, ok)
			}
			if got, ok := matrix.Mul(other, m); got != nil || ok {
				t.Errorf("%v * %v: %v %t", other, m, got, ok)
			}
		}
	}
}

// P5.2, and example 1
func TestApplyKnownProducts(t *testing.T) {
	for _, c := range []struct {
		m       [][]byte
		v, want []byte
	}{
		{[][]byte{{1, 2}, {3, 4}}, []byte{5, 6}, []byte{9, 23}},
		{[][]byte{{3}}, []byte{7}, []byte{9}},
		{[][]byte{{2, 128}}, []byte{128, 2}, []byte{0}},
		{[][]byte{{2}, {3}, {0}}, []byte{142}, []byte{1, 143, 0}},
		{[][]byte{{0, 1, 0}, {0, 0, 1}}, []byte{7, 8, 9}, []byte{8, 9}},
		{[][]byte{{0, 0}, {0, 0}}, []byte{5, 6}, []byte{0, 0}},
		{[][]byte{{1, 2}, {3, 4}}, []byte{0, 0}, []byte{0, 0}},
	} {
		if got, ok := matrix.Apply(c.m, c.v); !bytes.Equal(got, c.want) || !ok {
			t.Errorf("%v * %v: %v %t instead of %v", c.m, c.v, got, ok, c.want)
		}
	}
}

// P5.2: all sizes, with vectors that fit and that are too short or too long
func TestApplyFollowsDefinition(t *testing.T) {
	var r random
	for _, rows := range sizes {
		for _, columns := range sizes {
			m := r.matrix(rows, columns, 256)
			v := r.list(columns, 256)
			want := turned(productOf(m, columnOf(v)))[0]
			if got, ok := matrix.Apply(m, v); !bytes.Equal(got, want) || !ok {
				t.Errorf("%d by %d: %v %t instead of %v", rows, columns, got, ok, want)
			}
			for _, n := range []int{0, 1, columns - 1, columns + 1, 2 * columns, rows, 64, 65, 256} {
				if got, ok := matrix.Apply(m, make([]byte, n)); ok != (n == columns) || (got == nil) == ok {
					t.Errorf("%d by %d times %d elements: %v %t", rows, columns, n, got, ok)
				}
			}
			if got, ok := matrix.Apply(m, nil); got != nil || ok {
				t.Errorf("%d by %d times nil: %v %t", rows, columns, got, ok)
			}
		}
	}
}

// P5.2: the matrix is not valid, also where the vector seems to fit.
func TestApplyInvalid(t *testing.T) {
	for _, m := range invalid() {
		for _, n := range []int{0, 1, 2, 3, 63, 64, 65, 66, 256, 257} {
			if got, ok := matrix.Apply(m, make([]byte, n)); got != nil || ok {
				t.Errorf("%v times %d elements: %v %t", m, n, got, ok)
			}
		}
		if got, ok := matrix.Apply(m, nil); got != nil || ok {
			t.Errorf("%v times nil: %v %t", m, got, ok)
		}
	}
}

// P5.3, and example 2
func TestInvertKnownInverses(t *testing.T) {
	for _, c := range []struct{ m, want [][]byte }{
		{[][]byte{{2}}, [][]byte{{142}}}, {[][]byte{{142}}, [][]byte{{2}}}, {[][]byte{{1}}, [][]byte{{1}}}, {[][]byte{{3}}, [][]byte{{244}}},
		{unit(2), unit(2)}, {unit(64), unit(64)},
		{[][]byte{{0, 1}, {1, 0}}, [][]byte{{0, 1}, {1, 0}}},
		{[][]byte{{1, 1}, {0, 1}}, [][]byte{{1, 1}, {0, 1}}},
		{[][]byte{{1, 0}, {7, 1}}, [][]byte{{1, 0}, {7, 1}}},
		{[][]byte{{2, 0}, {0, 3}}, [][]byte{{142, 0}, {0, 244}}},
		{[][]byte{{0, 2}, {3, 0}}, [][]byte{{0, 244}, {142, 0}}},
		{[][]byte{{0, 1, 0}, {0, 0, 1}, {1, 0, 0}}, [][]byte{{0, 0, 1}, {1, 0, 0}, {0, 1, 0}}},
		{[][]byte{{1, 2, 3}, {0, 1, 4}, {0, 0, 1}}, [][]byte{{1, 2, 11}, {0, 1, 4}, {0, 0, 1}}},
	} {
		if got, ok := matrix.Invert(c.m); !same(got, c.want) || !ok {
			t.Errorf("%v: %v %t instead of %v", c.m, got, ok, c.want)
		}
	}
	if got, ok := matrix.Invert([][]byte{{0}}); got != nil || ok {
		t.Errorf("0: %v %t", got, ok)
	}
	for a := 1; a < 256; a++ {
		want, _ := field.Inv(byte(a))
		if got, ok := matrix.Invert([][]byte{{byte(a)}}); !same(got, [][]byte{{want}}) || !ok {
			t.Errorf("%d: %v %t instead of %d", a, got, ok, want)
		}
	}
}

// P5.3: all sizes that are not square, and all lists that are not valid
func TestInvertNotSquare(t *testing.T) {
	for rows := 1; rows <= 65; rows++ {
		for columns := range 66 {
			m := zeros(rows, columns)
			for i := range min(rows, columns) {
				m[i][i] = 1
			}
			got, ok := matrix.Invert(m)
			if want := rows == columns && rows <= 64; ok != want || (got != nil) != want {
				t.Errorf("%d by %d: %d rows, %t", rows, columns, len(got), ok)
			}
		}
	}
	for _, m := range invalid() {
		if got, ok := matrix.Invert(m); got != nil || ok {
			t.Errorf("%v: %v %t", m, got, ok)
		}
	}
}

// P5.3, and example 4: no inverse
func TestInvertKnownFailures(t *testing.T) {
	for _, m := range [][][]byte{
		{{0}}, {{1, 2}, {2, 4}}, {{0, 0}, {0, 0}}, {{1, 2}, {0, 0}}, {{0, 0}, {1, 2}}, {{0, 1}, {0, 2}}, {{1, 0}, {2, 0}}, {{7, 9}, {7, 9}}, {{1, 1}, {1, 1}},
		{{1, 2, 3}, {4, 5, 6}, {5, 7, 5}}, {{1, 0, 0}, {0, 0, 1}, {1, 0, 1}}, {{0, 1, 2}, {0, 3, 4}, {0, 5, 6}}, {{1, 2, 3}, {4, 5, 6}, {1, 2, 3}},
	} {
		if got, ok := matrix.Invert(m); got != nil || ok {
			t.Errorf("%v: %v %t", m, got, ok)
		}
	}
}

// P5.3: matrices with an inverse lose it by a row or a column of zeros, by two equal rows, and by a row that is a sum of multiples of others, wherever it is.
func TestInvertDependentRows(t *testing.T) {
	var r random
	for _, n := range []int{2, 3, 4, 17, 63, 64} {
		for range 3 {
			whole := r.ofRank(n, n, n, 256)
			if _, ok := matrix.Invert(whole); !ok {
				t.Fatalf("%v: no inverse", whole)
			}
			at, other := r.below(n), r.below(n-1)
			if other >= at {
				other++
			}
			row, column, equal, sum := deepCopy(whole), deepCopy(whole), deepCopy(whole), deepCopy(whole)
			clear(row[at])
			equal[at] = slices.Clone(equal[other])
			clear(sum[at])
			for i := range n {
				column[i][at] = 0
				if i != at {
					sum[at] = field.Scale(sum[at], sum[i], byte(r.below(256)))
				}
			}
			for _, m := range [][][]byte{row, column, equal, sum} {
				if got, ok := matrix.Invert(m); got != nil || ok {
					t.Errorf("%v: %v %t", m, got, ok)
				}
				if got := matrix.Rank(m); got != n-1 {
					t.Errorf("%v: the rank %d instead of %d", m, got, n-1)
				}
			}
		}
	}
}

// P5.3: rows must be exchanged: exactly one element but 0 in each row and column, and the same with more of them above the other diagonal.
func TestInvertExchanges(t *testing.T) {
	var r random
	for _, n := range []int{2, 3, 5, 63, 64} {
		for range 5 {
			m := part(unit(n), r.order(n), r.order(n))
			if got, ok := matrix.Invert(m); !same(got, turned(m)) || !ok {
				t.Errorf("%v: %v %t", m, got, ok)
			}
		}
		m := r.matrix(n, n, 256)
		for i := range n {
			clear(m[i][:n-1-i])
			m[i][n-1-i] = byte(1 + r.below(255))
		}
		if got, ok := matrix.Invert(m); !ok || !same(productOf(m, got), unit(n)) {
			t.Errorf("%v: %v %t", m, got, ok)
		}
	}
}

// P5.3: all matrices of two rows with elements from 0 to 4 and 255, and all those of three rows with elements from 0 to 2
func TestInvertFollowsCramer(t *testing.T) {
	elements := []byte{0, 1, 2, 3, 4, 255}
	for n, limit := range map[int]int{2: 6, 3: 3} {
		count := 1
		for range n * n {
			count *= limit
		}
		for number := range count {
			m := unit(n)
			for i := range n * n {
				m[i/n][i%n] = elements[number%limit]
				number /= limit
			}
			want, is := inverseOf(m)
			if got, ok := matrix.Invert(m); !same(got, want) || ok != is || ok != (got != nil) {
				t.Fatalf("%v: %v %t instead of %v %t", m, got, ok, want, is)
			}
		}
	}
}

// P5.3 and P5.4: matrices of four and five rows, with many zeros and with few of them
func TestSmallMatrices(t *testing.T) {
	var r random
	for _, limit := range []int{2, 2, 3, 5, 256} {
		for _, n := range []int{4, 5} {
			for range 40 {
				m := r.matrix(n, n, limit)
				want, is := inverseOf(m)
				if got, ok := matrix.Invert(m); !same(got, want) || ok != is || ok != (got != nil) {
					t.Errorf("%v: %v %t instead of %v %t", m, got, ok, want, is)
				}
				if got, want := matrix.Rank(m), rankByMinors(m); got != want {
					t.Errorf("%v: the rank %d instead of %d", m, got, want)
				}
			}
		}
	}
}

// P5.4, and example 4
func TestRankKnownRanks(t *testing.T) {
	for _, c := range []struct {
		m    [][]byte
		want int
	}{
		{[][]byte{{1, 2}, {2, 4}}, 1}, {[][]byte{{1, 2}, {3, 4}}, 2}, {[][]byte{{0}}, 0}, {[][]byte{{9}}, 1},
		{[][]byte{{0, 0, 0}}, 0}, {[][]byte{{0, 0, 7}}, 1}, {[][]byte{{0}, {0}}, 0}, {[][]byte{{0}, {7}, {9}}, 1},
		{[][]byte{{0, 0}, {0, 0}}, 0}, {[][]byte{{0, 1}, {0, 2}}, 1}, {[][]byte{{0, 0}, {5, 6}}, 1}, {[][]byte{{7, 9}, {7, 9}}, 1},
		{[][]byte{{0, 1, 0}, {0, 0, 1}, {1, 0, 0}}, 3}, {[][]byte{{1, 2, 3}, {4, 5, 6}, {5, 7, 5}}, 2},
		{[][]byte{{0, 1, 2, 3}, {0, 0, 0, 1}}, 2}, {[][]byte{{0, 0, 1, 2}, {0, 0, 2, 4}}, 1}, {[][]byte{{1, 2}, {3, 4}, {5, 6}, {7, 8}}, 2},
		{[][]byte{{1, 1, 0}, {0, 0, 0}, {0, 0, 5}}, 2}, {[][]byte{{0, 0, 1}, {0, 0, 2}, {0, 3, 0}}, 2}, {[][]byte{{1, 0, 0}, {0, 0, 1}, {1, 0, 1}}, 2},
	} {
		if got := matrix.Rank(c.m); got != c.want {
			t.Errorf("%v: %d instead of %d", c.m, got, c.want)
		}
	}
	for _, m := range invalid() {
		if got := matrix.Rank(m); got != 0 {
			t.Errorf("%v: %d", m, got)
		}
	}
}

// P5.4: matrices of zeros, and of one element but 0, of all sizes
func TestRankZeros(t *testing.T) {
	var r random
	for _, rows := range sizes {
		for _, columns := range sizes {
			m := zeros(rows, columns)
			if got := matrix.Rank(m); got != 0 {
				t.Errorf("%d by %d zeros: %d", rows, columns, got)
			}
			m[r.below(rows)][r.below(columns)] = byte(1 + r.below(255))
			if got := matrix.Rank(m); got != 1 {
				t.Errorf("%v: %d instead of 1", m, got)
			}
		}
	}
}

// P5.4 literally: up to three rows, some of them sums of multiples of others
func TestRankFollowsDefinition(t *testing.T) {
	var r random
	for rows := 1; rows <= 3; rows++ {
		for columns := 1; columns <= 4; columns++ {
			for rank := range min(rows, columns) + 1 {
				m := r.ofRank(rows, columns, rank, 256)
				if want := rankByDefinition(m); want != rank {
					t.Fatalf("the test's matrix %v: %d instead of %d", m, want, rank)
				}
				if got := matrix.Rank(m); got != rank {
					t.Errorf("%v: %d instead of %d", m, got, rank)
				}
			}
			m := r.matrix(rows, columns, 3)
			if got, want := matrix.Rank(m), rankByDefinition(m); got != want {
				t.Errorf("%v: %d instead of %d", m, got, want)
			}
		}
	}
}

// P5.4: more rows than columns, more columns than rows, and as many of both
func TestRankFollowsMinors(t *testing.T) {
	var r random
	for rows := 1; rows <= 5; rows++ {
		for columns := 1; columns <= 5; columns++ {
			for _, limit := range []int{2, 2, 2, 3, 3, 4, 256} {
				for range 4 {
					m := r.matrix(rows, columns, limit)
					if got, want := matrix.Rank(m), rankByMinors(m); got != want {
						t.Errorf("%v: %d instead of %d", m, got, want)
					}
				}
			}
		}
	}
}

// P5.4: great matrices that are made with a certain rank, also with columns of zeros before and between the others
func TestRankOfProducts(t *testing.T) {
	var r random
	for _, rows := range sizes {
		for _, columns := range sizes {
			most := min(rows, columns)
			for _, rank := range []int{0, 1, 2, most / 2, most - 1, most} {
				for _, limit := range []int{2, 256} {
					if rank > most {
						continue
					}
					m := r.ofRank(rows, columns, rank, limit)
					if got := matrix.Rank(m); got != rank {
						t.Errorf("%d by %d: %d instead of %d", rows, columns, got, rank)
					}
				}
			}
		}
	}
}

// P5.5, and example 3
func TestCauchyKnownMatrices(t *testing.T) {
	for _, c := range []struct {
		rows, columns int
		want          [][]byte
	}{
		{1, 1, [][]byte{{1}}}, {1, 2, [][]byte{{142, 244}}}, {2, 1, [][]byte{{1}, {142}}}, {2, 2, [][]byte{{142, 244}, {244, 142}}}, {1, 3, [][]byte{{244, 142, 1}}},
	} {
		if got, ok := matrix.Cauchy(c.rows, c.columns); !same(got, c.want) || !ok {
			t.Errorf("%d by %d: %v %t instead of %v", c.rows, c.columns, got, ok, c.want)
		}
	}
}

// P5.5: all sizes, also those that are too small or too great
func TestCauchyFollowsDefinition(t *testing.T) {
	for rows := -2; rows <= 70; rows++ {
		for columns := -2; columns <= 70; columns++ {
			var want [][]byte
			is := rows >= 1 && columns >= 1 && rows+columns <= 64
			for i := 0; is && i < rows; i++ {
				row := make([]byte, columns)
				for j := range row {
					row[j], _ = field.Inv(byte(columns+i) ^ byte(j))
				}
				want = append(want, row)
			}
			if got, ok := matrix.Cauchy(rows, columns); !same(got, want) || ok != is || ok != (got != nil) {
				t.Errorf("%d by %d: %v %t instead of %v %t", rows, columns, got, ok, want, is)
			}
		}
	}
}

// P5.5: numbers whose sum or difference exceeds the range of int
func TestCauchyGreatNumbers(t *testing.T) {
	numbers := []int{
		math.MinInt, math.MinInt + 1, math.MinInt + 2, math.MinInt + 63, math.MinInt + 64, math.MinInt + 65, -1 << 32, -1<<32 + 1, -257, -256, -255, -64, -1, 0, 1, 2, 32, 63, 64, 65,
		255, 256, 257, 1 << 32, 1<<32 + 1, math.MaxInt - 64, math.MaxInt - 63, math.MaxInt - 1, math.MaxInt,
	}
	for _, rows := range numbers {
		for _, columns := range numbers {
			is := rows >= 1 && rows <= 63 && columns >= 1 && columns <= 63 && rows+columns <= 64
			if got, ok := matrix.Cauchy(rows, columns); ok != is || ok != (got != nil) {
				t.Errorf("%d by %d: %v %t", rows, columns, got, ok)
			}
		}
	}
}
