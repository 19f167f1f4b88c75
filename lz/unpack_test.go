package lz_test

import (
	"math"
	"strings"
	"testing"

	"tapearchive/api"
	"tapearchive/lz"
)

// P8.1 and P8.2: the examples of the chapter
func TestExamples(t *testing.T) {
	check(t, []byte{4, 97, 98, 9, 2}, 6, "ababab", api.OK)
	check(t, []byte{4, 97, 98, 9, 2}, 5, "", api.ErrTooLong)
	check(t, []byte{3, 1}, 6, "", api.ErrRange)
	check(t, []byte{0}, 6, "", api.ErrSyntax)
	check(t, []byte{4, 97}, 6, "", api.ErrTruncated)
}

// P8.1 and P8.2: no tokens stand for no bytes, for all most.
func TestNoTokens(t *testing.T) {
	for _, most := range mosts(0) {
		check(t, nil, most, "", api.OK)
		check(t, []byte{}, most, "", api.OK)
		check(t, []byte{4, 97, 98}[:0], most, "", api.OK)
	}
}

// P8.1 and P8.2: valid forms, with every most from none to more than their size
func TestMost(t *testing.T) {
	for _, x := range []struct {
		form form
		want string
	}{
		{form{}.literals("a"), "a"},
		{form{}.literals("ab"), "ab"},
		{form{}.literals("a").literals("b"), "ab"},
		{form{}.literals("\x00\xff\x80"), "\x00\xff\x80"},
		{form{}.literals("a").copy(1, 1), "aa"},
		{form{}.literals("a").copy(9, 1), "aaaaaaaaaa"},
		{form{}.literals("abc").copy(1, 1), "abcc"},
		{form{}.literals("abc").copy(1, 2), "abcb"},
		{form{}.literals("abc").copy(1, 3), "abca"},
		{form{}.literals("abc").copy(2, 3), "abcab"},
		{form{}.literals("abc").copy(3, 3), "abcabc"},
		{form{}.literals("abc").copy(4, 3), "abcabca"},
		{form{}.literals("abc").copy(5, 3), "abcabcab"},
		{form{}.literals("abc").copy(6, 3), "abcabcabc"},
		{form{}.literals("abc").copy(7, 3), "abcabcabca"},
		{form{}.literals("abc").copy(7, 2), "abcbcbcbcb"},
		{form{}.literals("abc").copy(7, 1), "abcccccccc"},
		{form{}.literals("abcdef").copy(3, 5), "abcdefbcd"},
		{form{}.literals("abc").copy(2, 3).copy(2, 4), "abcabbc"},
		{form{}.literals("abc").copy(2, 3).copy(3, 5).literals("x").copy(2, 9), "abcababcxab"},
	} {
		size := len(x.want)
		for most := -2; most <= size+3; most++ {
			if most < size {
				check(t, x.form, most, "", api.ErrTooLong)
			} else {
				check(t, x.form, most, x.want, api.OK)
			}
		}
		for _, most := range []int{math.MinInt, math.MinInt + 1, -1 << 40} {
			check(t, x.form, most, "", api.ErrTooLong)
		}
		for _, most := range []int{1 << 31, math.MaxInt - 1, math.MaxInt} {
			check(t, x.form, most, x.want, api.OK)
		}
	}
}

// P8.1 and P8.2: numbers that cannot be read, in the place of a token's number and of a distance, with the errors of codec.Uint
func TestNumbers(t *testing.T) {
	nines := strings.Repeat("\xff", 9)
	for _, x := range []struct {
		number string
		e      api.Errno
	}{
		{"\x80", api.ErrTruncated},
		{"\xff", api.ErrTruncated},
		{"\x84\x81", api.ErrTruncated},
		{nines, api.ErrTruncated},
		{nines + "\x80", api.ErrTooLong},
		{nines + "\xff", api.ErrTooLong},
		{nines + "\xff\x01", api.ErrTooLong},
		{nines + "\x02", api.ErrTooLong},
		{nines + "\x7f", api.ErrTooLong},
		{nines + "\x00", api.ErrSyntax},
		{"\x80\x00", api.ErrSyntax},
		{"\x84\x00", api.ErrSyntax},
		{"\x81\x80\x00", api.ErrSyntax},
	} {
		for _, most := range []int{math.MinInt, -1, 0, 1, 100, math.MaxInt} {
			check(t, []byte(x.number), most, "", x.e)
			// A copy, of few and of very many bytes, whose distance this is
			check(t, []byte("\x03"+x.number), most, "", x.e)
			check(t, []byte("\xff\x7f"+x.number), most, "", x.e)
			check(t, []byte(nines+"\x01"+x.number), most, "", x.e)
		}
		for _, most := range []int{2, 3, 4, 100, math.MaxInt} {
			before := form{}.literals("ab")
			check(t, before.with([]byte(x.number)...), most, "", x.e)
			check(t, before.with(5).with([]byte(x.number)...), most, "", x.e)
		}
	}
	check(t, form{}.literals("ab").with(3), 100, "", api.ErrTruncated)
	check(t, []byte{3}, 100, "", api.ErrTruncated)
}

// P8.1 and P8.2: tokens of no bytes, which ErrSyntax precedes all other errors of, but for those of the number
func TestTokensOfNoBytes(t *testing.T) {
	for _, behind := range []string{"", "\x00", "\x01", "\x02a", "\x80", "ab"} {
		for _, token := range []string{"\x00", "\x01"} {
			for _, most := range mosts(2) {
				check(t, []byte(token+behind), most, "", api.ErrSyntax)
			}
			for _, most := range []int{2, 3, math.MaxInt} {
				check(t, []byte("\x04ab"+token+behind), most, "", api.ErrSyntax)
				check(t, []byte("\x02a\x03\x01"+token+behind), most, "", api.ErrSyntax)
			}
		}
	}
}

// P8.1 and P8.2: literals of all, of fewer and of more bytes than follow
func TestLiterals(t *testing.T) {
	text := strings.Repeat("0123456789abcde", 20000)
	for _, n := range []int{1, 2, 3, 31, 32, 62, 63, 64, 65, 127, 128, 8191, 8192, 8193, 131072} {
		whole := form{}.literals(text[:n])
		check(t, whole, n, text[:n], api.OK)
		check(t, whole, n+1, text[:n], api.OK)
		check(t, whole, n-1, "", api.ErrTooLong)
		check(t, whole[:len(whole)-1], n, "", api.ErrTruncated)
		check(t, whole[:len(whole)-1], math.MaxInt, "", api.ErrTruncated)
		check(t, whole[:len(whole)-1], n-1, "", api.ErrTooLong)
		check(t, whole[:len(whole)-n], n, "", api.ErrTruncated)
		check(t, whole[:len(whole)-n], n-1, "", api.ErrTooLong)
		check(t, whole.copy(1, uint64(n)), n+1, text[:n]+"0", api.OK)
	}
}

// P8.1 and P8.2: literals whose number is as great as a number can be
func TestLiteralsOfVeryManyBytes(t *testing.T) {
	for _, n := range []uint64{1 << 20, 1 << 31, 1 << 32, 1 << 40, 1 << 62, math.MaxInt - 3, math.MaxInt - 2, math.MaxInt - 1, math.MaxInt} {
		one := form{}.number(2 * n).with(97)
		check(t, one, int(n)-1, "", api.ErrTooLong)
		check(t, one, 0, "", api.ErrTooLong)
		check(t, one, -1, "", api.ErrTooLong)
		check(t, one, int(n), "", api.ErrTruncated)
		check(t, one, math.MaxInt, "", api.ErrTruncated)
		behind := form{}.literals("abc").number(2 * n).with(97)
		check(t, behind, int(n), "", api.ErrTooLong)
		if n <= math.MaxInt-3 {
			check(t, behind, int(n)+2, "", api.ErrTooLong)
			check(t, behind, int(n)+3, "", api.ErrTruncated)
			check(t, behind, math.MaxInt, "", api.ErrTruncated)
		} else {
			check(t, behind, math.MaxInt, "", api.ErrTooLong)
		}
	}
}

// P8.1 and P8.2: distances around the number of bytes so far
func TestDistances(t *testing.T) {
	text := strings.Repeat("0123456789", 40)
	for _, n := range []int{0, 1, 2, 3, 10, 63, 64, 127, 128, 300} {
		before := form{}
		if n > 0 {
			before = before.literals(text[:n])
		}
		for _, size := range []uint64{1, 2, 200} {
			for _, distance := range []uint64{0, uint64(n) + 1, uint64(n) + 2, 1 << 31, 1 << 32, math.MaxInt, math.MaxInt + 1, math.MaxUint64 - 1, math.MaxUint64} {
				for _, most := range []int{n, n + 1, n + int(size), math.MaxInt} {
					check(t, before.copy(size, distance), most, "", api.ErrRange)
				}
			}
			for distance := 1; distance <= n; distance++ {
				want := text[:n]
				for range size {
					want += want[len(want)-distance:][:1]
				}
				check(t, before.copy(size, uint64(distance)), n+int(size), want, api.OK)
				check(t, before.copy(size, uint64(distance)), n+int(size)-1, "", api.ErrTooLong)
			}
		}
	}
}

// P8.1 and P8.2: a copy at the very beginning has nothing to copy.
func TestCopyAtBeginning(t *testing.T) {
	for _, distance := range []uint64{0, 1, 2, 100, math.MaxUint64} {
		for _, size := range []uint64{1, 2, 100, math.MaxInt} {
			for _, most := range mosts(int(size) / 4) {
				check(t, form{}.copy(size, distance), most, "", api.ErrRange)
				check(t, form{}.copy(size, distance).literals("a"), most, "", api.ErrRange)
			}
		}
	}
}

// P8.1: copies that are shorter than, as long as and longer than their distance
func TestCopiesOfAllSizes(t *testing.T) {
	var r random
	b := string(r.bytes(70, 256))
	for distance := 1; distance <= len(b); distance++ {
		for _, size := range []int{1, 2, distance - 1, distance, distance + 1, 2*distance - 1, 2 * distance, 2*distance + 1, 3*distance + 1, 7 * distance, 1000} {
			if size == 0 {
				continue
			}
			want := []byte(b)
			for range size {
				want = append(want, want[len(want)-distance])
			}
			check(t, form{}.literals(b).copy(uint64(size), uint64(distance)), len(want), string(want), api.OK)
			check(t, form{}.literals(b).copy(uint64(size), uint64(distance)).literals("!"), len(want)+1, string(want)+"!", api.OK)
		}
	}
}

// P8.1 and P8.2: of two errors in one token the first one of the chapter, and of two tokens with errors that of the first one
func TestOrderOfErrors(t *testing.T) {
	ab := form{}.literals("ab")
	cut := byte(0x80)
	for _, x := range []struct {
		name string
		form form
		most int
		e    api.Errno
	}{
		{"no bytes, nothing follows", ab.with(0), 2, api.ErrSyntax},
		{"no bytes, distance cut off", ab.with(1, cut), 2, api.ErrSyntax},
		{"no bytes, distance 0", ab.with(1, 0), 2, api.ErrSyntax},
		{"too many literals, fewer follow", ab.with(4, 97), 3, api.ErrTooLong},
		{"too many literals, none follow", ab.with(4), 3, api.ErrTooLong},
		{"not too many literals, fewer follow", ab.with(4, 97), 4, api.ErrTruncated},
		{"distance cut off, too many copied", ab.with(5, cut), 3, api.ErrTruncated},
		{"distance missing, too many copied", ab.with(5), 3, api.ErrTruncated},
		{"distance with a zero group, too many copied", ab.with(5, cut, 0), 3, api.ErrSyntax},
		{"distance 0, too many copied", ab.copy(2, 0), 3, api.ErrRange},
		{"distance too great, too many copied", ab.copy(2, 3), 3, api.ErrRange},
		{"distance right, too many copied", ab.copy(2, 2), 3, api.ErrTooLong},
		{"literals too long, then no bytes", ab.literals("x").with(0), 2, api.ErrTooLong},
		{"no bytes, then literals too long", ab.with(0).literals("x"), 2, api.ErrSyntax},
		{"distance too great, then no bytes", ab.copy(1, 3).with(0), 9, api.ErrRange},
		{"no bytes, then distance too great", ab.with(0).copy(1, 3), 9, api.ErrSyntax},
		{"copy too long, then cut off", ab.copy(8, 1).with(cut), 9, api.ErrTooLong},
		{"copy right, then cut off", ab.copy(7, 1).with(cut), 9, api.ErrTruncated},
		{"copy right, then no bytes", ab.copy(7, 1).with(1), 9, api.ErrSyntax},
		{"copy right, then a copy too long", ab.copy(7, 1).copy(1, 9), 9, api.ErrTooLong},
		{"copy right, then distance too great", ab.copy(7, 1).copy(1, 10), 9, api.ErrRange},
		{"copy right, then literals too long", ab.copy(7, 1).literals("x"), 9, api.ErrTooLong},
		{"copy right, then fewer literals", ab.copy(6, 1).with(2), 9, api.ErrTruncated},
	} {
		t.Run(x.name, func(t *testing.T) { check(t, x.form, x.most, "", x.e) })
	}
}

// P8.2, and P8.1 for errors: few bytes that stand for very many are measured, and errors behind them are found, without making them.
func TestVeryManyBytes(t *testing.T) {
	one := form{}.literals("a")
	for _, n := range []uint64{1 << 31, 1<<31 + 1, 1 << 40, 1 << 62, math.MaxInt - 1} {
		size := 1 + int(n)
		long := one.copy(n, 1)
		for _, most := range []int{size, math.MaxInt - 1, math.MaxInt} {
			checkSize(t, long, max(most, size), size, api.OK)
			check(t, long.with(0), max(most, size), "", api.ErrSyntax)
			check(t, long.with(0x80), max(most, size), "", api.ErrTruncated)
			check(t, long.copy(1, 0), max(most, size), "", api.ErrRange)
			check(t, long.copy(1, uint64(size)+1), max(most, size), "", api.ErrRange)
		}
		if size < math.MaxInt {
			check(t, long.with(2), size+1, "", api.ErrTruncated)
			check(t, long.with(2), math.MaxInt, "", api.ErrTruncated)
		}
		check(t, long.with(2), size, "", api.ErrTooLong)
		check(t, long, size-1, "", api.ErrTooLong)
		check(t, long.copy(1, uint64(size)), size, "", api.ErrTooLong)
		check(t, long.copy(math.MaxInt, uint64(size)), math.MaxInt, "", api.ErrTooLong)
	}
	check(t, one.copy(math.MaxInt, 1), math.MaxInt, "", api.ErrTooLong)
	checkSize(t, one.copy(1<<61, 1).copy(1<<61, 1<<61).copy(1<<61, 1), math.MaxInt, 3<<61+1, api.OK)
	check(t, one.copy(1<<62, 1).copy(1<<62, 1), math.MaxInt, "", api.ErrTooLong)
}

// P8.1: the longest result of which anything is promised
func TestLongestResult(t *testing.T) {
	const n = 1<<31 - 1
	got, e := lz.Unpack(form{}.literals("abc").copy(n-4, 3).literals("x"), n)
	if len(got) != n || e != api.OK || string(got[:4]) != "abca" || string(got[n-4:]) != "abcx" {
		t.Errorf("%d bytes and %d", len(got), e)
	}
}

// R1: results that no memory can hold do not end in a panic.
func TestResultsTooLongForMemory(t *testing.T) {
	for _, n := range []uint64{1<<31 - 1, 1 << 31, 1 << 40, 1 << 62, math.MaxInt - 1} {
		if got, e := lz.Unpack(form{}.literals("a").copy(n, 1), math.MaxInt); got != nil || e != api.ErrTooLong {
			t.Errorf("%d bytes: %d bytes and %d", n+1, len(got), e)
		}
	}
}

// P8.1 and P8.2: a long result
func TestLongResult(t *testing.T) {
	const n = 1<<24 + 5
	b := form{}.literals("abcdefg").copy(n-8, 7).literals("x")
	got, e := lz.Unpack(b, n)
	if len(got) != n || e != api.OK || got[n-1] != 'x' {
		t.Fatalf("%d bytes and %d", len(got), e)
	}
	for i, x := range got[:n-1] {
		if x != "abcdefg"[i%7] {
			t.Fatalf("byte %d: %d", i, x)
		}
	}
	checkSize(t, b, n, n, api.OK)
	checkUnpack(t, b, n-1, nil, api.ErrTooLong)
	checkSize(t, b, n-1, 0, api.ErrTooLong)
}

// P8.1 and P8.2: all forms of up to two bytes
func TestAllFormsOfTwoBytes(t *testing.T) {
	for _, most := range []int{-1, 0, 1, 2, math.MaxInt} {
		for x := range 256 {
			compare(t, []byte{byte(x)}, most)
			for y := range 256 {
				compare(t, []byte{byte(x), byte(y)}, most)
			}
		}
	}
}

// P8.1 and P8.2: all forms of three to six bytes from those that make a difference
func TestAllFormsOfFewBytes(t *testing.T) {
	digits := []byte{0, 1, 2, 3, 4, 5, 7, 0x80, 0x81}
	for n := 3; n <= 6; n++ {
		b := make([]byte, n)
		count := 1
		for range n {
			count *= len(digits)
		}
		for k := range count {
			for i := range b {
				b[i] = digits[k%len(digits)]
				k /= len(digits)
			}
			compare(t, b, 3)
			if n < 6 {
				for _, most := range []int{-1, 0, 1, 2, 4, 5, math.MaxInt} {
					compare(t, b, most)
				}
			}
		}
	}
}

// randomForm returns a valid form and its result.
func randomForm(r *random) (form, string) {
	var f form
	var result []byte
	for range r.below(8) {
		if len(result) == 0 || r.below(3) == 0 {
			part := r.bytes(1+r.below([]int{4, 70, 300}[r.below(3)]), 256)
			f = f.literals(string(part))
			result = append(result, part...)
			continue
		}
		distance := 1 + r.below(len(result))
		if r.below(4) == 0 {
			distance = len(result)
		}
		size := 1 + r.below([]int{3, distance, distance + 1, 400}[r.below(4)])
		f = f.copy(uint64(size), uint64(distance))
		for range size {
			result = append(result, result[len(result)-distance])
		}
	}
	return f, string(result)
}

// P8.1 and P8.2: valid forms of many tokens, and what remains of them when they are cut off or changed
func TestRandomForms(t *testing.T) {
	var r random
	for range 3000 {
		f, want := randomForm(&r)
		size := len(want)
		check(t, f, size, want, api.OK)
		check(t, f, size+1+r.below(100), want, api.OK)
		check(t, f, math.MaxInt, want, api.OK)
		if size > 0 {
			check(t, f, size-1, "", api.ErrTooLong)
			compare(t, f, r.below(size))
			compare(t, f[:r.below(len(f))], size)
			changed := append(form{}, f...)
			changed[r.below(len(f))] ^= byte(1 + r.below(255))
			for _, most := range []int{r.below(size), size - 1, size, size + 20, math.MaxInt} {
				compare(t, changed, most)
			}
		}
		compare(t, r.bytes(r.below(40), 12), r.below(60))
		compare(t, f.with(r.bytes(r.below(5), 256)...), size+r.below(60))
	}
}
