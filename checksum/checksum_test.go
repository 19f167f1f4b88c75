package checksum_test

import (
	"bytes"
	"math"
	"testing"

	"tapearchive/api"
	"tapearchive/checksum"
)

// after follows the chapter's definition literally: the register after the bytes of b, bit by bit.
func after(register uint32, b []byte) uint32 {
	for _, x := range b {
		register ^= uint32(x)
		for range 8 {
			if register%2 == 0 {
				register = register >> 1
			} else {
				register = register>>1 ^ 0x82F63B78
			}
		}
	}
	return register
}

// weak follows the chapter's definition literally.
func weak(b []byte) uint32 {
	s, t := 0, 0
	for i, x := range b {
		s += int(x)
		t += (len(b) - i) * int(x)
	}
	return uint32(t%65521)*65536 + uint32(s%65521)
}

// bytesOf returns n bytes without an obvious pattern, the same ones for each call.
func bytesOf(n int) []byte {
	b := make([]byte, n)
	x := uint32(12345)
	for i := range b {
		x = x*1664525 + 1013904223
		b[i] = byte(x >> 24)
	}
	return b
}

// words are registers and sums that the definitions must accept, sensible or not.
func words() []uint32 {
	return []uint32{0, 1, 2, 77, 0x00010000, 0x7FFFFFFF, 0x80000000, 0x82F63B78, 0xDEADBEEF, 0xFFF0FFF0, 0xFFF1FFF1, 0xFFF1FFFF, 0xFFFFFFFE, 0xFFFFFFFF}
}

// P1.1
func TestSumOfKnownStrings(t *testing.T) {
	ascending, descending := make([]byte, 32), make([]byte, 32)
	for i := range 32 {
		ascending[i], descending[31-i] = byte(i), byte(i)
	}
	for _, c := range []struct {
		name string
		b    []byte
		want uint32
	}{
		{"nil", nil, 0},
		{"empty", []byte{}, 0},
		{"digits", []byte("123456789"), 0xE3069283},
		{"a", []byte("a"), 0xC1D04330},
		{"zeros", make([]byte, 32), 0x8A9136AA},
		{"ones", bytes.Repeat([]byte{0xFF}, 32), 0x62A8AB43},
		{"ascending", ascending, 0x46DD794E},
		{"descending", descending, 0x113FDB5C},
	} {
		if got := checksum.Sum(c.b); got != c.want {
			t.Errorf("%s: %#x instead of %#x", c.name, got, c.want)
		}
	}
}

// P1.1
func TestSumFollowsDefinition(t *testing.T) {
	for x := range 256 {
		b := []byte{byte(x)}
		if got, want := checksum.Sum(b), ^after(0xFFFFFFFF, b); got != want {
			t.Errorf("byte %d: %#x instead of %#x", x, got, want)
		}
	}
	b := bytesOf(5000)
	for _, n := range []int{2, 3, 4, 5, 63, 64, 65, 255, 256, 257, 4096, 5000} {
		if got, want := checksum.Sum(b[:n]), ^after(0xFFFFFFFF, b[:n]); got != want {
			t.Errorf("%d bytes: %#x instead of %#x", n, got, want)
		}
	}
	if !bytes.Equal(b, bytesOf(5000)) {
		t.Error("the argument was changed")
	}
}

// P1.2
func TestUpdateContinuesSum(t *testing.T) {
	b := bytesOf(300)
	want := checksum.Sum(b)
	for i := range len(b) + 1 {
		if got := checksum.Update(checksum.Sum(b[:i]), b[i:]); got != want {
			t.Errorf("divided at %d: %#x instead of %#x", i, got, want)
		}
	}
	single := uint32(0)
	for _, x := range b {
		single = checksum.Update(single, []byte{x})
	}
	if single != want {
		t.Errorf("byte by byte: %#x instead of %#x", single, want)
	}
}

// P1.2
func TestUpdateOfEverySum(t *testing.T) {
	b := bytesOf(40)
	for _, sum := range words() {
		if checksum.Update(sum, nil) != sum || checksum.Update(sum, []byte{}) != sum {
			t.Errorf("%#x: changed by the empty string", sum)
		}
		for n := range len(b) + 1 {
			if got, want := checksum.Update(sum, b[:n]), ^after(^sum, b[:n]); got != want {
				t.Errorf("%#x and %d bytes: %#x instead of %#x", sum, n, got, want)
			}
		}
	}
}

// P1.3
func TestCombineConcatenates(t *testing.T) {
	if got := checksum.Combine(checksum.Sum([]byte("12345")), checksum.Sum([]byte("6789")), 4); got != 0xE3069283 {
		t.Errorf("example 1: %#x", got)
	}
	b := bytesOf(300)
	want := checksum.Sum(b)
	for i := range len(b) + 1 {
		if got := checksum.Combine(checksum.Sum(b[:i]), checksum.Sum(b[i:]), len(b)-i); got != want {
			t.Errorf("divided at %d: %#x instead of %#x", i, got, want)
		}
	}
}

// P1.3
func TestCombineFollowsDefinition(t *testing.T) {
	zeros := make([]byte, 65537)
	for _, a := range words() {
		for _, b := range []uint32{0, 1, 0x12345678, 0xFFFFFFFF} {
			for _, n := range []int{0, 1, 2, 3, 4, 5, 7, 8, 63, 64, 65, 1000, 65535, 65536, 65537} {
				if got, want := checksum.Combine(a, b, n), b^after(a, zeros[:n]); got != want {
					t.Errorf("%#x, %#x, %d: %#x instead of %#x", a, b, n, got, want)
				}
			}
		}
	}
}

// P1.3
func TestCombineOutsideOfRange(t *testing.T) {
	for _, n := range []int{-1, -2, math.MinInt, api.MaxNumber + 1, api.MaxNumber + 2, 2 * api.MaxNumber, math.MaxInt} {
		for _, a := range words() {
			if got := checksum.Combine(a, 0x12345678, n); got != 0 {
				t.Errorf("%#x, %d: %#x instead of 0", a, n, got)
			}
		}
	}
}

// matrix contains the register after some number of zero bytes for each single bit.
type matrix [32]uint32

func (m matrix) apply(register uint32) uint32 {
	var r uint32
	for i, column := range m {
		if register>>i&1 == 1 {
			r ^= column
		}
	}
	return r
}

// P1.3: a number of bytes that could not be taken one by one.
func TestCombineOfPowersUpToMaxNumber(t *testing.T) {
	var m matrix
	for i := range m {
		m[i] = after(1<<i, []byte{0})
	}
	n := 1
	for n < api.MaxNumber {
		var square matrix
		for i := range m {
			square[i] = m.apply(m[i])
		}
		m, n = square, 2*n
		for _, a := range words() {
			if got, want := checksum.Combine(a, 0xCAFEBABE, n), 0xCAFEBABE^m.apply(a); got != want {
				t.Fatalf("%#x, %d: %#x instead of %#x", a, n, got, want)
			}
		}
	}
	if n != api.MaxNumber {
		t.Fatalf("ended at %d", n)
	}
}

// P1.3
func TestCombineOfSums(t *testing.T) {
	for _, a := range words() {
		for _, m := range []int{0, 1, 12345, 0x3FFFFFFFFFF, api.MaxNumber - 1, api.MaxNumber} {
			n := api.MaxNumber - m
			if got, want := checksum.Combine(checksum.Combine(a, 0, m), 0, n), checksum.Combine(a, 0, api.MaxNumber); got != want {
				t.Errorf("%#x, %d and %d: %#x instead of %#x", a, m, n, got, want)
			}
		}
		if got, want := checksum.Combine(checksum.Combine(a, 0, api.MaxNumber-1), 0, 1), checksum.Combine(a, 0, api.MaxNumber); got != want {
			t.Errorf("%#x: %#x instead of %#x", a, got, want)
		}
	}
}

// P1.4
func TestWeakOfKnownStrings(t *testing.T) {
	// The sum of these bytes is the modulus; the first ones count 257 to 2 times, the last one once.
	exact := append(bytes.Repeat([]byte{255}, 256), 241)
	for _, c := range []struct {
		name string
		b    []byte
		want uint32
	}{
		{"nil", nil, 0},
		{"empty", []byte{}, 0},
		{"one byte", []byte{200}, 200*65536 + 200},
		{"example", []byte{1, 2, 3}, 655366},
		{"next window", []byte{2, 3, 4}, 1048585},
		{"zeros", make([]byte, 1000), 0},
		{"order", []byte{3, 2, 1}, 14*65536 + 6},
		{"modulus", exact, ((257*258/2-1)*255 + 241) % 65521 * 65536},
	} {
		if got := checksum.Weak(c.b); got != c.want {
			t.Errorf("%s: %d instead of %d", c.name, got, c.want)
		}
	}
}

// P1.4
func TestWeakFollowsDefinition(t *testing.T) {
	b, greatest := bytesOf(200000), bytes.Repeat([]byte{255}, 200000)
	for _, n := range []int{1, 2, 3, 22, 23, 256, 257, 258, 5000, 65520, 65521, 65522, 65536, 200000} {
		if got, want := checksum.Weak(b[:n]), weak(b[:n]); got != want {
			t.Errorf("%d bytes: %#x instead of %#x", n, got, want)
		}
		if got, want := checksum.Weak(greatest[:n]), weak(greatest[:n]); got != want {
			t.Errorf("%d bytes 255: %#x instead of %#x", n, got, want)
		}
	}
	if !bytes.Equal(b, bytesOf(200000)) {
		t.Error("the argument was changed")
	}
}

// P1.5 and example 2
func TestRollSlidesWindow(t *testing.T) {
	if got := checksum.Roll(655366, 3, 1, 4); got != 1048585 {
		t.Errorf("example: %d", got)
	}
	b := bytesOf(70000)
	for _, n := range []int{1, 2, 3, 64, 255, 256, 257, 4096, 65520, 65521, 65522, 65535, 65536} {
		sum := checksum.Weak(b[:n])
		for i := range min(300, len(b)-n) {
			sum = checksum.Roll(sum, n, b[i], b[i+n])
			if i%10 == 0 && sum != weak(b[i+1:i+1+n]) {
				t.Fatalf("window of %d at %d: %#x instead of %#x", n, i+1, sum, weak(b[i+1:i+1+n]))
			}
		}
	}
}

// P1.5
func TestRollOfEverySum(t *testing.T) {
	remainder := func(x int) int {
		for x < 0 {
			x += 65521 * 1000
		}
		return x % 65521
	}
	for _, sum := range words() {
		for _, n := range []int{1, 2, 65521, 65535, 65536} {
			for _, x := range [][2]byte{{0, 0}, {0, 255}, {255, 0}, {255, 255}, {1, 2}, {128, 7}} {
				lower := remainder(int(sum%65536) - int(x[0]) + int(x[1]))
				upper := remainder(int(sum/65536) - n*int(x[0]) + lower)
				if got, want := checksum.Roll(sum, n, x[0], x[1]), uint32(upper*65536+lower); got != want {
					t.Errorf("%#x, %d, %v: %#x instead of %#x", sum, n, x, got, want)
				}
			}
		}
	}
}

// P1.5
func TestRollOutsideOfRange(t *testing.T) {
	for _, n := range []int{0, -1, math.MinInt, 65537, 65538, math.MaxInt} {
		for _, sum := range words() {
			if got := checksum.Roll(sum, n, 1, 4); got != 0 {
				t.Errorf("%#x, %d: %#x instead of 0", sum, n, got)
			}
		}
	}
}

// rank returns how many of the words are linearly independent over the field with two elements.
func rank(l []uint32) int {
	var pivots [32]uint32
	n := 0
	for _, x := range l {
		for i := 31; i >= 0 && x != 0; i-- {
			if x>>i&1 == 0 {
				continue
			}
			if pivots[i] == 0 {
				pivots[i] = x
				n++
				break
			}
			x ^= pivots[i]
		}
	}
	return n
}

// P1.6: what a change of bits does to the CRC-32C is the exclusive-or of what the single bits do (the next test). So none of the 2^32 changes of a window leaves it as it is if the 32 single bits are independent.
func TestSumDetectsEveryChangeOfFourBytes(t *testing.T) {
	for _, n := range []int{4, 5, 64, 300, 4096} {
		b := bytesOf(n)
		sum := checksum.Sum(b)
		for _, at := range []int{0, 1, n / 2, n - 5, n - 4} {
			if at < 0 || at > n-4 {
				continue
			}
			var effects []uint32
			for bit := range 32 {
				b[at+bit/8] ^= 1 << (bit % 8)
				effects = append(effects, checksum.Sum(b)^sum)
				b[at+bit/8] ^= 1 << (bit % 8)
			}
			if rank(effects) != 32 {
				t.Errorf("%d bytes at %d: rank %d", n, at, rank(effects))
			}
		}
	}
}

// P1.6
func TestSumOfChangesIsLinear(t *testing.T) {
	b := bytesOf(64)
	sum := checksum.Sum(b)
	zero := checksum.Sum(make([]byte, 64))
	for at := range 61 {
		for _, change := range words()[1:] {
			difference := make([]byte, 64)
			for i := range 4 {
				difference[at+i] = byte(change >> (8 * i))
			}
			changed := bytesOf(64)
			for i, x := range difference {
				changed[i] ^= x
			}
			effect := checksum.Sum(changed) ^ sum
			if effect == 0 {
				t.Errorf("change %#x at %d is not detected", change, at)
			}
			if want := checksum.Sum(difference) ^ zero; effect != want {
				t.Errorf("change %#x at %d: %#x instead of %#x", change, at, effect, want)
			}
		}
	}
}
