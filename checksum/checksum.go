// Package checksum is layer 1: see shared/doc/01-checksum.md.
package checksum

import "tapearchive/api"

const (
	polynomial = 0x82F63B78 // of CRC-32C; bit 31 stands for the power 0, as in every register
	prime      = 65521      // modulus of both halves of the weak checksum
	maxWindow  = 65536      // most bytes of a window that Roll moves
)

// Sum returns the CRC-32C (polynomial 0x1EDC6F41, reflected, initial value and final exclusive-or 0xFFFFFFFF) of b.
func Sum(b []byte) uint32 { return Update(0, b) }

// Update returns the CRC-32C of a string that has the CRC-32C sum, followed by b.
func Update(sum uint32, b []byte) uint32 {
	table := remainders()
	register := ^sum
	for _, x := range b {
		register = register>>8 ^ table[byte(register)^x]
	}
	return ^register
}

// Combine returns the CRC-32C of the concatenation of two strings with the CRC-32Cs a and b, the second one of which has n bytes; 0 if n is negative or greater than api.MaxNumber. Its time is logarithmic in n.
func Combine(a, b uint32, n int) uint32 {
	if n < 0 || n > api.MaxNumber {
		return 0
	}
	return b ^ afterZeros(a, n)
}

// Weak returns the rolling checksum of b: the sum of its bytes modulo 65521 in the lower 16 bits, and the sum of (len(b) - i) * b[i] modulo 65521 in the upper ones.
func Weak(b []byte) uint32 {
	var lower, upper uint32
	for _, x := range b {
		lower = (lower + uint32(x)) % prime
		// A byte is part of all lower sums from its own place on, so that it counts len(b) - i times.
		upper = (upper + lower) % prime
	}
	return upper<<16 | lower
}

// Roll returns the rolling checksum of a string of n bytes after its first byte, out, has been removed and the byte in has been appended, where sum is the one before; 0 if n is less than 1 or greater than 65536.
func Roll(sum uint32, n int, out, in byte) uint32 {
	if n < 1 || n > maxWindow {
		return 0
	}
	lower := reduce(int(sum&0xFFFF) - int(out) + int(in))
	upper := reduce(int(sum>>16) - n*int(out) + lower)
	return uint32(upper)<<16 | uint32(lower)
}

// reduce returns the remainder of x modulo prime, which unlike that of % is not negative.
func reduce(x int) int { return (x%prime + prime) % prime }

// step returns the register after one step, which multiplies the polynomial that it stands for by x.
func step(register uint32) uint32 {
	if register&1 == 0 {
		return register >> 1
	}
	return register>>1 ^ polynomial
}

// remainders returns, for each byte, the register after it that begins as 0. The step is linear, so that only the eight single bits need steps: an entry is the exclusive-or of those of its bits.
func remainders() [256]uint32 {
	var table [256]uint32
	register := uint32(1)
	for k := range 8 {
		register = step(register)
		bit := 128 >> k
		for x := bit; x < len(table); x += 2 * bit {
			table[x] = table[x-bit] ^ register
		}
	}
	return table
}

// afterZeros returns the register after n zero bytes that begins as the one given. It multiplies by a power of x, squaring for each binary digit of n, because n may be too great to take the bytes one by one.
func afterZeros(register uint32, n int) uint32 {
	factor := uint32(1) << 23 // the power 8: one byte
	for ; n > 0; n >>= 1 {
		if n&1 == 1 {
			register = multiply(register, factor)
		}
		factor = multiply(factor, factor)
	}
	return register
}

// multiply returns the product of two polynomials modulo that of CRC-32C.
func multiply(a, b uint32) uint32 {
	var product uint32
	for k := range 32 {
		if a>>(31-k)&1 == 1 {
			product ^= b
		}
		b = step(b)
	}
	return product
}
