package lz_test

import (
	"bytes"
	"math"
	"slices"
	"strings"
	"testing"

	"tapearchive/api"
	"tapearchive/lz"
)

// checkPack checks that Pack returns a form that stands for b, by the test's own reading and by Unpack, of at most most bytes.
func checkPack(t *testing.T, b []byte, most int) {
	t.Helper()
	packed := lz.Pack(b)
	if len(packed) > most {
		t.Errorf("%s (%d bytes): packed, it has %d bytes instead of at most %d", short(b), len(b), len(packed), most)
	}
	if len(b) <= makeable {
		if got, _, e := unpacked(packed, len(b)); !bytes.Equal(got, b) || e != api.OK {
			t.Errorf("%s: the form %s stands for %s %d", short(b), short(packed), short(got), e)
		}
	}
	for _, room := range []int{len(b), len(b) + 1, 2*len(b) + 100, math.MaxInt} {
		checkUnpack(t, packed, room, b, api.OK)
		checkSize(t, packed, room, len(b), api.OK)
	}
	if len(b) > 0 {
		checkUnpack(t, packed, len(b)-1, nil, api.ErrTooLong)
		checkSize(t, packed, len(b)-1, 0, api.ErrTooLong)
	}
	// A result depends on nothing but the argument.
	if again := lz.Pack(bytes.Clone(b)); !bytes.Equal(again, packed) {
		t.Errorf("%s: first the form %s, then %s", short(b), short(packed), short(again))
	}
}

// checkString checks what Pack returns for any string.
func checkString(t *testing.T, b []byte) {
	t.Helper()
	bound := 0
	if len(b) > 0 {
		bound = len(b) + 10
	}
	checkPack(t, b, bound)
}

// checkUnit checks what Pack returns for a repeated unit, also where the last unit is not whole.
func checkUnit(t *testing.T, unit []byte, times int) {
	t.Helper()
	b := bytes.Repeat(unit, times)
	checkPack(t, b, min(len(b)+10, len(unit)+24))
	checkString(t, b[:len(b)-len(unit)/2])
}

// P8.3: no bytes
func TestPackNoBytes(t *testing.T) {
	for _, b := range [][]byte{nil, {}, []byte("abc")[:0]} {
		if got := lz.Pack(b); len(got) != 0 {
			t.Errorf("%v instead of no bytes", got)
		}
		checkString(t, b)
	}
}

// P8.3: one byte, of all kinds
func TestPackOneByte(t *testing.T) {
	for x := range 256 {
		checkString(t, []byte{byte(x)})
	}
}

// P8.3: all short strings of two kinds of bytes, and of three
func TestPackAllShortStrings(t *testing.T) {
	for n := range 14 {
		for k := range 1 << n {
			b := make([]byte, n)
			for i := range b {
				b[i] = byte(k >> i & 1)
			}
			checkString(t, b)
		}
	}
	count := 1
	for n := range 9 {
		for k := range count {
			b := make([]byte, n)
			for i := range b {
				b[i] = byte(97 + k%3)
				k /= 3
			}
			checkString(t, b)
		}
		count *= 3
	}
}

// P8.3 and P8.5: equal bytes
func TestPackEqualBytes(t *testing.T) {
	for _, x := range []byte{0, 1, 97, 0x7f, 0x80, 0xff} {
		for n := 2; n <= 300; n++ {
			checkUnit(t, []byte{x}, n)
		}
		for _, n := range []int{4000, 8191, 8192, 8193, 16384, 65536, 100000} {
			checkUnit(t, []byte{x}, n)
		}
	}
}

// P8.3: bytes none of which comes again, and such of whose pairs and triples none does
func TestPackDifferentBytes(t *testing.T) {
	all := make([]byte, 256)
	for i := range all {
		all[i] = byte(i)
	}
	for n := range 257 {
		checkString(t, all[:n])
		checkString(t, all[256-n:])
	}
	var pairs []byte
	for step := 1; step < 256; step += 2 {
		for i := range 256 {
			pairs = append(pairs, byte(i*step))
		}
	}
	for _, n := range []int{300, 512, 1000, 4096, len(pairs)} {
		checkString(t, pairs[:n])
	}
}

// P8.3: texts
func TestPackTexts(t *testing.T) {
	const line = "The catalog is transactional; each of its commits is also written to log cartridges, so that it can be rebuilt from the media alone.\n"
	numbered := ""
	for i := range 300 {
		numbered += "file " + strings.Repeat("x", i%7) + string(rune('0'+i%10)) + line[i%50:]
	}
	for _, text := range []string{"a", "ab", "abc", "abab", "abcabc", "ababab", "aabbaabb", line, line + line, line + line[3:] + line[5:60], "the cat sat on the mat, the cat sat on the hat", numbered, "\u00e4\u00f6\u00fc\u4e16\u754c\u4e16\u754c", line + "\x00\xff" + line} {
		for _, n := range []int{1, 2, 3, 4, 5, 6, 7, 8, 63, 64, 65, 127, 128, 129, 1000, 4095, 4096, len(text) - 1, len(text)} {
			if n <= len(text) {
				checkString(t, []byte(text[:n]))
			}
		}
	}
}

// P8.3: strings of few and of many kinds of bytes
func TestPackRandomBytes(t *testing.T) {
	var r random
	for _, kinds := range []int{1, 2, 3, 4, 8, 16, 64, 256} {
		for range 200 {
			checkString(t, r.bytes(r.below(200), kinds))
		}
		for _, n := range []int{61, 62, 63, 64, 65, 66, 1000, 4096, 8190, 8191, 8192, 8193, 20000, 70000} {
			checkString(t, r.bytes(n, kinds))
		}
	}
}

// P8.3: what valid forms stand for, which have copies of all sizes and distances
func TestPackResultsOfForms(t *testing.T) {
	var r random
	for range 1500 {
		_, result := randomForm(&r)
		checkString(t, []byte(result))
	}
}

// comeAgain returns random bytes, behind which some parts of size bytes come again, each of which begins about distance bytes before, with random bytes between them.
func comeAgain(r *random, parts, distance, size, between int) []byte {
	b := r.bytes(distance, 256)
	for range parts {
		from := len(b) - distance + r.below(20)
		b = append(b, b[from:from+size]...)
		b = append(b, r.bytes(between, 256)...)
	}
	return b
}

// P8.3: strings in which a few bytes come again far away, so that copies of them might be longer than they are
func TestPackBoundOfShortCopies(t *testing.T) {
	var r random
	for size := 3; size <= 7; size++ {
		for _, distance := range []int{100, 127, 128, 300, 5000, 20000} {
			for _, between := range []int{0, 1, 2, 62, 63, 64, 65, 70} {
				checkString(t, comeAgain(&r, 50, distance, size, between))
			}
		}
		checkString(t, comeAgain(&r, 20, 300, size, 8200))
		checkString(t, comeAgain(&r, 20, 20000, size, 8200))
	}
}

// P8.3: long strings, up to those of 2^20 bytes
func TestPackLongStrings(t *testing.T) {
	var r random
	const n = 1 << 20
	checkString(t, make([]byte, n))
	checkString(t, r.bytes(n, 2))
	checkString(t, r.bytes(n, 256))
	half := r.bytes(n/2, 256)
	checkString(t, slices.Concat(half, half))
	checkString(t, bytes.Repeat(r.bytes(1000, 256), n/1000))
	long := bytes.Repeat([]byte("abcabd"), n/6)
	long[n/2] = 'x'
	checkString(t, long)
}

// P8.4
func TestBound(t *testing.T) {
	for _, n := range []int{math.MinInt, math.MinInt + 1, -1 << 40, -1 << 31, -100, -11, -10, -9, -2, -1, 0} {
		if got := lz.Bound(n); got != 0 {
			t.Errorf("Bound(%d) is %d", n, got)
		}
	}
	for _, n := range []int{1, 2, 5, 9, 10, 11, 63, 64, 4096, 1 << 20, 1<<31 - 11, 1<<31 - 10, 1<<31 - 1, 1 << 31} {
		if got := lz.Bound(n); got != n+10 {
			t.Errorf("Bound(%d) is %d", n, got)
		}
	}
	if got := lz.Bound(5); got != 15 {
		t.Errorf("Bound(5) is %d", got)
	}
}

// R1: numbers of which nothing else is promised
func TestBoundOfGreatNumbers(t *testing.T) {
	for _, n := range []int{1<<31 + 1, 1 << 40, math.MaxInt - 10, math.MaxInt - 9, math.MaxInt} {
		lz.Bound(n)
	}
}

// P8.5: units of 1 to 32 bytes, repeated twice and more often
func TestUnits(t *testing.T) {
	var r random
	for n := 1; n <= 32; n++ {
		for _, kinds := range []int{1, 2, 3, 4, 256} {
			for _, times := range []int{2, 3, 4, 5, 8, 20, 100, 1000} {
				checkUnit(t, r.bytes(n, kinds), times)
			}
		}
	}
}

// P8.5: units of which only one byte is different, which is at any place
func TestUnitsOfOneDifferentByte(t *testing.T) {
	for n := 1; n <= 32; n++ {
		for i := range n {
			unit := bytes.Repeat([]byte{'a'}, n)
			unit[i] = 'b'
			for _, times := range []int{2, 3, 50} {
				checkUnit(t, unit, times)
			}
		}
	}
}

// P8.5: all units of two kinds of bytes up to some length
func TestAllShortUnits(t *testing.T) {
	for n := 1; n <= 10; n++ {
		for k := range 1 << n {
			unit := make([]byte, n)
			for i := range unit {
				unit[i] = byte(k >> i & 1)
			}
			for _, times := range []int{2, 3, 40} {
				checkUnit(t, unit, times)
			}
		}
	}
}

// everyTwice returns a unit of 2^(width+1) bytes of two kinds, such that where it is repeated each string of width bytes comes twice in it, and whether this try has found one.
func everyTwice(r *random, width int) ([]byte, bool) {
	used := make([]int, 1<<width)
	window, limit := r.below(len(used)), 2*len(used)
	first := window
	var unit []byte
	for len(unit) < limit {
		next := []int{window << 1 % len(used), (window<<1 + 1) % len(used)}
		if r.below(2) == 0 {
			slices.Reverse(next)
		}
		if used[next[0]] == 2 {
			next[0] = next[1]
		}
		if used[next[0]] == 2 {
			return nil, false
		}
		window = next[0]
		used[window]++
		unit = append(unit, byte(window&1))
	}
	return unit, window == first && !bytes.Equal(unit[:limit/2], unit[limit/2:])
}

// P8.5: units in which every few bytes come at two places, so that the nearer one misleads; with them repeated very often
func TestUnitsOfRepeatedParts(t *testing.T) {
	var r random
	for width := 2; width <= 4; width++ {
		for found := 0; found < 40; {
			unit, ok := everyTwice(&r, width)
			if !ok {
				continue
			}
			found++
			for _, times := range []int{2, 3, 10, 100, 1000} {
				checkUnit(t, unit, times)
			}
		}
	}
	for range 100 {
		part := r.bytes(1+r.below(7), 3)
		unit := bytes.Repeat(part, 32/len(part))
		unit[r.below(len(unit))] ^= 4
		for _, times := range []int{2, 3, 200} {
			checkUnit(t, unit, times)
		}
	}
}

// P8.5: units repeated so often that the string is as long as Pack permits
func TestUnitsInLongStrings(t *testing.T) {
	var r random
	for _, n := range []int{1, 3, 16, 31, 32} {
		checkUnit(t, r.bytes(n, 3), 1<<20/n)
	}
}
