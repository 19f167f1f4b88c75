package lz_test

import (
	"bytes"
	"encoding/binary"
	"math"
	"slices"
	"testing"

	"tapearchive/api"
	"tapearchive/codec"
	"tapearchive/lz"
)

// What the functions must return, computed by following the chapter's sentences one by one.

// makeable is the greatest size of a result that the tests make.
const makeable = 1 << 18

// random is a sequence of numbers that is the same in each run.
type random uint64

// number returns the next number, of 64 bits.
func (r *random) number() uint64 {
	*r = *r*6364136223846793005 + 1442695040888963407
	x := uint64(*r)
	return (x ^ x>>33) * 0xFF51AFD7ED558CCD
}

// below returns the next number, from 0 to n - 1.
func (r *random) below(n int) int { return int(r.number() >> 1 % uint64(n)) }

// bytes returns n bytes, each of which is less than kinds.
func (r *random) bytes(n, kinds int) []byte {
	b := make([]byte, n)
	for i := range b {
		b[i] = byte(r.below(kinds))
	}
	return b
}

// form is a compressed form, or the beginning of one. Its methods return longer ones, in new memory.
type form []byte

// with appends any bytes.
func (f form) with(b ...byte) form { return append(slices.Clip(f), b...) }

// number appends a number.
func (f form) number(n uint64) form { return binary.AppendUvarint(slices.Clip(f), n) }

// literals appends the token of these literals.
func (f form) literals(s string) form { return f.number(2 * uint64(len(s))).with([]byte(s)...) }

// copy appends the token of a copy.
func (f form) copy(n, distance uint64) form { return f.number(2*n + 1).number(distance) }

// reading is what is known while the tokens of a form are processed in order.
type reading struct {
	b    []byte
	at   int
	most uint64
	size uint64
	made []byte // the result, as long as it is makeable
}

// unpacked returns what Size returns, and what Unpack returns if the size is makeable.
func unpacked(b []byte, most int) ([]byte, int, api.Errno) {
	r := reading{b: b, most: uint64(max(most, 0))}
	for r.at < len(b) {
		if e := r.token(); e != api.OK {
			return nil, 0, e
		}
	}
	return r.made, int(r.size), api.OK
}

// token processes one token.
func (r *reading) token() api.Errno {
	number, at, e := codec.Uint(r.b, r.at)
	n := number / 2
	r.at = at
	switch {
	case e != api.OK:
		return e
	case n == 0:
		return api.ErrSyntax
	case number%2 == 0 && r.size+n > r.most:
		return api.ErrTooLong
	case number%2 == 0 && uint64(len(r.b)-at) < n:
		return api.ErrTruncated
	case number%2 == 0:
		r.make(n, func(i int) byte { return r.b[at+i] })
		r.at += int(n)
		return api.OK
	}
	return r.copy(n)
}

// copy processes a copy from its distance on.
func (r *reading) copy(n uint64) api.Errno {
	distance, at, e := codec.Uint(r.b, r.at)
	r.at = at
	switch {
	case e != api.OK:
		return e
	case distance == 0 || distance > r.size:
		return api.ErrRange
	case r.size+n > r.most:
		return api.ErrTooLong
	}
	r.make(n, func(int) byte { return r.made[len(r.made)-int(distance)] })
	return api.OK
}

// make adds n bytes to the result. The sums are those of two numbers below 2^63.
func (r *reading) make(n uint64, next func(i int) byte) {
	r.size += n
	if r.size > makeable {
		return
	}
	for i := range int(n) {
		r.made = append(r.made, next(i))
	}
}

// compare checks what Unpack and Size return. Results that are too long for the tests are only measured.
func compare(t *testing.T, b []byte, most int) {
	t.Helper()
	made, size, e := unpacked(b, most)
	checkSize(t, b, most, size, e)
	if e != api.OK || size <= makeable {
		checkUnpack(t, b, most, made, e)
	}
}

// checkUnpack checks what Unpack returns.
func checkUnpack(t *testing.T, b []byte, most int, want []byte, e api.Errno) {
	t.Helper()
	if got, f := lz.Unpack(b, most); !bytes.Equal(got, want) || f != e {
		t.Errorf("Unpack of %s with most %d: %s %d instead of %s %d", short(b), most, short(got), f, short(want), e)
	}
}

// checkSize checks what Size returns.
func checkSize(t *testing.T, b []byte, most int, want int, e api.Errno) {
	t.Helper()
	if got, f := lz.Size(b, most); got != want || f != e {
		t.Errorf("Size of %s with most %d: %d %d instead of %d %d", short(b), most, got, f, want, e)
	}
}

// check checks what Unpack returns, what Size returns, and that the test's own reading agrees.
func check(t *testing.T, b []byte, most int, want string, e api.Errno) {
	t.Helper()
	if made, size, f := unpacked(b, most); string(made) != want || size != len(want) || f != e {
		t.Fatalf("%s with most %d: the test expects %s %d, but its own reading gives %s %d", short(b), most, short([]byte(want)), e, short(made), f)
	}
	checkUnpack(t, b, most, []byte(want), e)
	checkSize(t, b, most, len(want), e)
}

// mosts are numbers around a size, and the least and the greatest ones.
func mosts(size int) []int {
	return []int{math.MinInt, math.MinInt + 1, -1 << 40, -2, -1, 0, 1, 2, size - 1, size, size + 1, 2*size + 5, 1 << 31, math.MaxInt - 1, math.MaxInt}
}

// short returns bytes as they are written in messages.
func short(b []byte) string {
	const digits = "0123456789abcdef"
	text := []byte{'['}
	for i, x := range b {
		if i == 60 {
			return string(text) + " ...]"
		}
		text = append(text, ' ', digits[x/16], digits[x%16])
	}
	return string(text) + " ]"
}
