package field_test

import (
	"bytes"
	"math"
	"slices"
	"testing"

	"tapearchive/field"
)

// productOf follows the chapter's definition of the product literally: the product of the polynomials, and then its remainder.
func productOf(a, b byte) byte {
	product := 0
	for i := range 8 {
		for j := range 8 {
			product ^= (int(a) >> i & 1) * (int(b) >> j & 1) << (i + j)
		}
	}
	for degree := 14; degree >= 8; degree-- {
		if product>>degree&1 == 1 {
			product ^= 0x11D << (degree - 8)
		}
	}
	return byte(product)
}

// productTable contains the products of all pairs, by the definition.
func productTable() *[256][256]byte {
	var table [256][256]byte
	for a := range 256 {
		for b := range 256 {
			table[a][b] = productOf(byte(a), byte(b))
		}
	}
	return &table
}

// powerOf follows P4.5 literally, for an n from 0 on that is not great.
func powerOf(a byte, n int) byte {
	power := byte(1)
	for range n {
		power = productOf(power, a)
	}
	return power
}

// valueOf follows P4.6 literally, with the powers of x one by one.
func valueOf(table *[256][256]byte, p []byte, x byte) byte {
	sum, power := byte(0), byte(1)
	for _, coefficient := range p {
		sum ^= table[coefficient][power]
		power = table[power][x]
	}
	return sum
}

// scaled follows P4.7 literally.
func scaled(table *[256][256]byte, dst, src []byte, by byte) []byte {
	list := make([]byte, len(dst))
	for i := range list {
		list[i] = dst[i]
		if i < len(src) {
			list[i] ^= table[src[i]][by]
		}
	}
	return list
}

// someBytes returns n bytes of all kinds, others for another seed.
func someBytes(n int, seed uint32) []byte {
	list := make([]byte, n)
	for i := range list {
		seed = seed*1664525 + 1013904223
		list[i] = byte(seed >> 24)
	}
	return list
}

// P4.1
func TestAdd(t *testing.T) {
	for a := range 256 {
		for b := range 256 {
			if got := field.Add(byte(a), byte(b)); int(got) != a^b {
				t.Errorf("%d + %d: %d instead of %d", a, b, got, a^b)
			}
		}
	}
}

// P4.1: the sum of a sum and one of its elements is the other one, so that it is the difference, too.
func TestAddIsSubtraction(t *testing.T) {
	for a := range 256 {
		for b := range 256 {
			sum := field.Add(byte(a), byte(b))
			if got := field.Add(sum, byte(b)); int(got) != a {
				t.Errorf("%d + %d - %d: %d", a, b, b, got)
			}
		}
	}
}

// P4.2, and example 1
func TestMulKnownProducts(t *testing.T) {
	for _, c := range [][3]byte{
		{2, 128, 29}, {3, 7, 9}, {2, 142, 1}, {2, 7, 14}, {3, 244, 1}, {1, 2, 2}, {16, 16, 29}, {128, 128, 19},
		{0, 0, 0}, {0, 1, 0}, {1, 1, 1}, {0, 255, 0}, {1, 255, 255},
	} {
		if got := field.Mul(c[0], c[1]); got != c[2] {
			t.Errorf("%d * %d: %d instead of %d", c[0], c[1], got, c[2])
		}
		if got := field.Mul(c[1], c[0]); got != c[2] {
			t.Errorf("%d * %d: %d instead of %d", c[1], c[0], got, c[2])
		}
	}
}

// P4.2: all pairs, also with 0 and 1
func TestMulFollowsDefinition(t *testing.T) {
	for a := range 256 {
		for b := range 256 {
			want := productOf(byte(a), byte(b))
			if got := field.Mul(byte(a), byte(b)); got != want {
				t.Errorf("%d * %d: %d instead of %d", a, b, got, want)
			}
		}
	}
}

// P4.2, the definition of the generator: the powers of 2 are all elements but 0.
func TestGenerator(t *testing.T) {
	var met [256]bool
	element := byte(1)
	for range 255 {
		met[element] = true
		element = field.Mul(element, 2)
	}
	if element != 1 {
		t.Errorf("the 255th power of 2 is %d", element)
	}
	for a, is := range met {
		if is != (a != 0) {
			t.Errorf("%d is a power of 2: %t", a, is)
		}
	}
}

// P4.3
func TestInv(t *testing.T) {
	for _, c := range [][2]byte{{1, 1}, {2, 142}, {142, 2}, {3, 244}, {244, 3}} {
		if got, ok := field.Inv(c[0]); got != c[1] || !ok {
			t.Errorf("the inverse of %d: %d %t instead of %d", c[0], got, ok, c[1])
		}
	}
	for a := 1; a < 256; a++ {
		if got, ok := field.Inv(byte(a)); productOf(byte(a), got) != 1 || !ok {
			t.Errorf("the inverse of %d: %d %t", a, got, ok)
		}
	}
	if got, ok := field.Inv(0); got != 0 || ok {
		t.Errorf("the inverse of 0: %d %t", got, ok)
	}
}

// P4.4: all quotients, also those of 0 and those by 0
func TestDiv(t *testing.T) {
	for a := range 256 {
		for b := 1; b < 256; b++ {
			if got, ok := field.Div(byte(a), byte(b)); int(productOf(got, byte(b))) != a || !ok {
				t.Errorf("%d / %d: %d %t", a, b, got, ok)
			}
		}
		if got, ok := field.Div(byte(a), 0); got != 0 || ok {
			t.Errorf("%d / 0: %d %t", a, got, ok)
		}
		if got, ok := field.Div(byte(a), 1); int(got) != a || !ok {
			t.Errorf("%d / 1: %d %t", a, got, ok)
		}
	}
	for b := 1; b < 256; b++ {
		if got, ok := field.Div(0, byte(b)); got != 0 || !ok {
			t.Errorf("0 / %d: %d %t", b, got, ok)
		}
	}
	if got, ok := field.Div(9, 7); got != 3 || !ok {
		t.Errorf("9 / 7: %d %t", got, ok)
	}
}

// P4.5
func TestPowKnownPowers(t *testing.T) {
	for _, c := range []struct {
		a    byte
		n    int
		want byte
	}{
		{0, 0, 1}, {0, 1, 0}, {0, 2, 0}, {0, 254, 0}, {0, 255, 0}, {0, 256, 0}, {0, 510, 0}, {0, math.MaxInt, 0},
		{0, -1, 0}, {0, -255, 0}, {0, math.MinInt, 0},
		{1, 0, 1}, {1, 1, 1}, {1, 254, 1}, {1, 255, 1}, {1, 256, 1}, {1, math.MaxInt, 1}, {1, -1, 0}, {1, -255, 0}, {1, math.MinInt, 0},
		{2, 0, 1}, {2, 1, 2}, {2, 7, 128}, {2, 8, 29}, {2, 9, 58}, {2, 254, 142}, {2, 255, 1}, {2, 256, 2}, {2, 510, 1},
		{2, -1, 0}, {2, -254, 0}, {2, -255, 0}, {2, -256, 0}, {2, math.MinInt, 0}, {2, math.MinInt + 1, 0},
		{3, 2, 5}, {3, 254, 244}, {3, 255, 1}, {3, 256, 3}, {255, 0, 1}, {255, 1, 255}, {255, 255, 1}, {255, -1, 0}, {255, math.MinInt, 0},
	} {
		if got := field.Pow(c.a, c.n); got != c.want {
			t.Errorf("%d to the power %d: %d instead of %d", c.a, c.n, got, c.want)
		}
	}
}

// P4.5: all elements, with exponents beyond three times the order of the generator
func TestPowFollowsDefinition(t *testing.T) {
	table := productTable()
	for a := range 256 {
		want := byte(1)
		for n := range 770 {
			if got := field.Pow(byte(a), n); got != want {
				t.Fatalf("%d to the power %d: %d instead of %d", a, n, got, want)
			}
			want = table[want][a]
		}
	}
}

// P4.5: exponents whose factors cannot be taken one by one, for all elements. The powers of an element but 0 repeat after 255 of them, and 256 leaves the remainder 1 on division by 255.
func TestPowGreatExponents(t *testing.T) {
	for a := range 256 {
		for _, c := range []struct{ n, remainder int }{
			{1 << 32, 1}, {1<<32 - 1, 255}, {1 << 40, 1}, {1 << 61, 32}, {1 << 62, 64}, {1<<62 - 1, 63}, {1<<62 + 1, 65},
			{math.MaxInt, 127}, {math.MaxInt - 1, 126}, {math.MaxInt - 126, 1}, {math.MaxInt - 127, 255}, {math.MaxInt - 128, 254},
		} {
			if got, want := field.Pow(byte(a), c.n), powerOf(byte(a), c.remainder); got != want {
				t.Errorf("%d to the power %d: %d instead of %d", a, c.n, got, want)
			}
		}
		for _, n := range []int{-1, -2, -254, -255, -256, -510, -1 << 32, -math.MaxInt, math.MinInt} {
			if got := field.Pow(byte(a), n); got != 0 {
				t.Errorf("%d to the power %d: %d", a, n, got)
			}
		}
	}
}

// P4.6, and example 2
func TestEvalKnownValues(t *testing.T) {
	for _, c := range []struct {
		p    []byte
		x    byte
		want byte
	}{
		{nil, 0, 0}, {nil, 1, 0}, {nil, 9, 0}, {[]byte{}, 0, 0}, {[]byte{}, 9, 0},
		{[]byte{8}, 0, 8}, {[]byte{8}, 1, 8}, {[]byte{8}, 77, 8}, {[]byte{0}, 77, 0},
		{[]byte{3, 1}, 2, 1}, {[]byte{8, 1}, 0, 8}, {[]byte{8, 1}, 1, 9}, {[]byte{0, 1}, 77, 77}, {[]byte{0, 0, 1}, 16, 29},
		{[]byte{14, 5, 1}, 2, 0}, {[]byte{14, 5, 1}, 7, 0}, {[]byte{14, 5, 1}, 0, 14}, {[]byte{14, 5, 1}, 1, 10}, {[]byte{14, 5, 1, 0, 0}, 7, 0},
	} {
		if got := field.Eval(c.p, c.x); got != c.want {
			t.Errorf("the polynomial %v at %d: %d instead of %d", c.p, c.x, got, c.want)
		}
	}
}

// P4.6: lists of all lengths, also longer than the order of the generator, at all elements
func TestEvalFollowsDefinition(t *testing.T) {
	table := productTable()
	for _, n := range []int{0, 1, 2, 3, 4, 5, 16, 254, 255, 256, 257, 600, 5000} {
		p := someBytes(n, uint32(n))
		before := slices.Clone(p)
		for x := range 256 {
			if got, want := field.Eval(p, byte(x)), valueOf(table, p, byte(x)); got != want {
				t.Errorf("%d coefficients at %d: %d instead of %d", n, x, got, want)
			}
		}
		if !bytes.Equal(p, before) {
			t.Errorf("%d coefficients have changed", n)
		}
	}
}

// P4.6: the roots of the product of (x + a) and (x + b) are a and b, and no other element.
func TestEvalRoots(t *testing.T) {
	for _, a := range []byte{0, 1, 2, 77, 255} {
		for _, b := range []byte{0, 1, 7, 128, 254} {
			p := []byte{productOf(a, b), a ^ b, 1}
			for x := range 256 {
				is := byte(x) == a || byte(x) == b
				if got := field.Eval(p, byte(x)); (got == 0) != is {
					t.Errorf("%v at %d: %d", p, x, got)
				}
			}
		}
	}
}

// P4.7: src is shorter, as long and longer, nil and empty.
func TestScaleKnownLists(t *testing.T) {
	for _, c := range []struct {
		dst, src []byte
		by       byte
		want     []byte
	}{
		{[]byte{1, 2, 3}, []byte{3, 0, 128, 9}, 2, []byte{7, 2, 30}}, {[]byte{1, 2, 3}, []byte{1}, 7, []byte{6, 2, 3}},
		{[]byte{1, 2, 3}, []byte{4, 5, 6}, 0, []byte{1, 2, 3}}, {[]byte{1, 2, 3}, []byte{4, 5, 6}, 1, []byte{5, 7, 5}},
		{[]byte{1, 2, 3}, nil, 7, []byte{1, 2, 3}}, {[]byte{1, 2, 3}, []byte{}, 7, []byte{1, 2, 3}},
		{[]byte{0, 0, 0}, []byte{3, 142, 128}, 2, []byte{6, 1, 29}}, {[]byte{5}, []byte{7, 1, 1}, 3, []byte{12}},
		{nil, []byte{1}, 7, nil}, {[]byte{}, []byte{1}, 7, nil}, {nil, nil, 7, nil}, {[]byte{}, []byte{}, 0, nil}, {nil, []byte{1, 2}, 0, nil},
	} {
		if got := field.Scale(c.dst, c.src, c.by); !bytes.Equal(got, c.want) {
			t.Errorf("%v plus %v by %d: %v instead of %v", c.dst, c.src, c.by, got, c.want)
		}
	}
}

// P4.7: all pairs of a factor and an element, and lists of many lengths
func TestScaleFollowsDefinition(t *testing.T) {
	table := productTable()
	all := make([]byte, 256)
	for i := range all {
		all[i] = byte(i)
	}
	for by := range 256 {
		dst := someBytes(256, uint32(by))
		if got, want := field.Scale(dst, all, byte(by)), scaled(table, dst, all, byte(by)); !bytes.Equal(got, want) {
			t.Errorf("all elements by %d: %v instead of %v", by, got, want)
		}
	}
	lengths := []int{0, 1, 2, 3, 63, 64, 65, 255, 256, 257, 4096}
	for _, n := range lengths {
		for _, m := range lengths {
			for _, by := range []byte{0, 1, 2, 29, 255} {
				dst, src := someBytes(n, uint32(n)), someBytes(m, uint32(m+9999))
				if got, want := field.Scale(dst, src, by), scaled(table, dst, src, by); !bytes.Equal(got, want) {
					t.Errorf("%d elements plus %d by %d: %v instead of %v", n, m, by, got, want)
				}
			}
		}
	}
}

// P4.7, and R3: the arguments stay as they are, also behind their lengths, and the result is new memory.
func TestScaleSharesNoMemory(t *testing.T) {
	table := productTable()
	memory := someBytes(100, 5)
	before := slices.Clone(memory)
	for _, n := range []int{0, 1, 50, 99, 100} {
		for _, m := range []int{0, 1, 50, 99, 100} {
			for _, by := range []byte{0, 1, 7} {
				// Both arguments are parts of one memory with room behind them.
				dst, src := memory[:n], memory[100-m:]
				want := scaled(table, before[:n], before[100-m:], by)
				first := field.Scale(dst, src, by)
				second := field.Scale(dst, src, by)
				for i := range second {
					second[i] ^= 255
				}
				_ = append(second, 98, 98, 98)
				if !bytes.Equal(memory, before) {
					t.Fatalf("%d elements plus %d by %d: the memory is now %v", n, m, by, memory)
				}
				if !bytes.Equal(first, want) {
					t.Errorf("%d elements plus %d by %d: %v instead of %v", n, m, by, first, want)
				}
			}
		}
	}
	same := field.Scale(memory, memory, 1)
	if !bytes.Equal(same, make([]byte, 100)) {
		t.Errorf("a list plus itself: %v", same)
	}
	clear(memory)
	if got := field.Scale(before, memory, 7); !bytes.Equal(got, before) {
		t.Errorf("a list plus zeros: %v instead of %v", got, before)
	}
}

// tables contains what Add and Mul return for all pairs.
func tables() (sum, product *[256][256]byte) {
	sum, product = new([256][256]byte), new([256][256]byte)
	for a := range 256 {
		for b := range 256 {
			sum[a][b] = field.Add(byte(a), byte(b))
			product[a][b] = field.Mul(byte(a), byte(b))
		}
	}
	return sum, product
}

// P4.8: 0 and 1 are neutral, sums and products are commutative, and each element is its own negative.
func TestLawsOfPairs(t *testing.T) {
	sum, product := tables()
	for a := range 256 {
		if sum[a][0] != byte(a) || product[a][1] != byte(a) || product[a][0] != 0 || sum[a][a] != 0 {
			t.Errorf("%d: plus 0 %d, by 1 %d, by 0 %d, plus itself %d", a, sum[a][0], product[a][1], product[a][0], sum[a][a])
		}
		for b := range 256 {
			if sum[a][b] != sum[b][a] || product[a][b] != product[b][a] {
				t.Errorf("%d and %d: not commutative", a, b)
			}
			if product[a][b] == 0 && a != 0 && b != 0 {
				t.Errorf("%d * %d: 0", a, b)
			}
		}
	}
}

// P4.8: sums and products are associative, and products distribute over sums, for all triples.
func TestLawsOfTriples(t *testing.T) {
	sum, product := tables()
	for a := range 256 {
		for b := range 256 {
			for c := range 256 {
				if sum[sum[a][b]][c] != sum[a][sum[b][c]] {
					t.Fatalf("%d, %d, %d: sums are not associative", a, b, c)
				}
				if product[product[a][b]][c] != product[a][product[b][c]] {
					t.Fatalf("%d, %d, %d: products are not associative", a, b, c)
				}
				if product[a][sum[b][c]] != sum[product[a][b]][product[a][c]] {
					t.Fatalf("%d, %d, %d: products do not distribute over sums", a, b, c)
				}
			}
		}
	}
}

// P4.8: every element but 0 has an inverse, the one of the inverse is the element, and its 255th power is 1.
func TestLawsOfInverses(t *testing.T) {
	var met [256]bool
	for a := 1; a < 256; a++ {
		inverse, ok := field.Inv(byte(a))
		if field.Mul(byte(a), inverse) != 1 || field.Mul(inverse, byte(a)) != 1 || !ok || met[inverse] {
			t.Errorf("the inverse of %d: %d %t", a, inverse, ok)
		}
		met[inverse] = true
		if back, ok := field.Inv(inverse); int(back) != a || !ok {
			t.Errorf("the inverse of the inverse of %d: %d %t", a, back, ok)
		}
		if quotient, ok := field.Div(1, byte(a)); quotient != inverse || !ok {
			t.Errorf("1 / %d: %d %t instead of %d", a, quotient, ok, inverse)
		}
		if got := field.Pow(byte(a), 255); got != 1 {
			t.Errorf("%d to the power 255: %d", a, got)
		}
	}
}

// P4.8 with P4.4 to P4.7: the functions agree with one another.
func TestFunctionsAgree(t *testing.T) {
	for a := range 256 {
		for b := range 256 {
			x, y := byte(a), byte(b)
			product := field.Mul(x, y)
			if quotient, ok := field.Div(product, y); ok != (y != 0) || ok && quotient != x {
				t.Errorf("%d * %d / %d: %d %t", a, b, b, quotient, ok)
			}
			if got := field.Eval([]byte{0, x}, y); got != product {
				t.Errorf("the polynomial with the coefficients 0 and %d at %d: %d instead of %d", a, b, got, product)
			}
			if got := field.Scale([]byte{0}, []byte{x}, y); !bytes.Equal(got, []byte{product}) {
				t.Errorf("0 plus %d by %d: %v instead of %d", a, b, got, product)
			}
			if got, want := field.Mul(field.Pow(x, a), field.Pow(x, b)), field.Pow(x, a+b); got != want {
				t.Errorf("the product of the powers %d and %d of %d: %d instead of %d", a, b, a, got, want)
			}
		}
	}
}
