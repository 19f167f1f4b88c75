package codec_test

import (
	"bytes"
	"math"
	"math/big"
	"slices"
	"strings"
	"testing"

	"tapearchive/api"
	"tapearchive/codec"
)

// numberOf follows the chapter's definition of the bytes of a number literally.
func numberOf(n *big.Int) []byte {
	base := big.NewInt(128)
	var groups []byte
	for rest := new(big.Int).Set(n); len(groups) == 0 || rest.Sign() > 0; rest.Div(rest, base) {
		groups = append(groups, byte(new(big.Int).Mod(rest, base).Int64()))
	}
	for i := range len(groups) - 1 {
		groups[i] += 128
	}
	return groups
}

// bytesOfUint returns the bytes of the number n.
func bytesOfUint(n uint64) []byte { return numberOf(new(big.Int).SetUint64(n)) }

// codeOf follows the chapter's definition of the code of n literally.
func codeOf(n int) uint64 {
	c := new(big.Int).Mul(big.NewInt(2), big.NewInt(int64(n)))
	if n < 0 {
		c.Neg(c)
		c.Sub(c, big.NewInt(1))
	}
	return c.Uint64()
}

// readUint follows P2.2 literally, sentence by sentence.
func readUint(b []byte, at int) (uint64, int, api.Errno) {
	if at < 0 || at > len(b) {
		return 0, 0, api.ErrRange
	}
	given := b[at:]
	if len(given) > 10 {
		given = given[:10]
	}
	last := slices.IndexFunc(given, func(x byte) bool { return x < 128 })
	if last < 0 && len(given) == 10 {
		return 0, 0, api.ErrTooLong
	}
	if last < 0 {
		return 0, 0, api.ErrTruncated
	}
	if last == 9 && given[last] > 1 {
		return 0, 0, api.ErrTooLong
	}
	if last > 0 && given[last] == 0 {
		return 0, 0, api.ErrSyntax
	}
	n := new(big.Int)
	for i := last; i >= 0; i-- {
		n.Mul(n, big.NewInt(128))
		n.Add(n, big.NewInt(int64(given[i]%128)))
	}
	return n.Uint64(), at + last + 1, api.OK
}

// numbers are 0, the greatest uint64, and all powers of 2 with their neighbors.
func numbers() []uint64 {
	list := []uint64{0, 3, 300, 599, 12345678901234567890, math.MaxUint64 - 1, math.MaxUint64}
	for k := range 64 {
		p := uint64(1) << k
		list = append(list, p-1, p, p+1)
	}
	return list
}

// ints are the smallest and the greatest int, 0, and all powers of 2 of both signs with their neighbors.
func ints() []int {
	list := []int{0, -300, 300, math.MinInt, math.MinInt + 1, math.MaxInt - 1, math.MaxInt}
	for k := range 63 {
		p := 1 << k
		list = append(list, p-1, p, p+1, -p-1, -p, -p+1)
	}
	return list
}

// texts are of lengths around those whose numbers get another byte, with bytes of all kinds.
func texts() []string {
	list := []string{"", "ab", "a\x00b", "\xff\xfe\x80", "\u00e4\u4e16\n", "\x00"}
	for _, n := range []int{1, 2, 3, 63, 64, 127, 128, 129, 255, 256, 16383, 16384, 70000} {
		list = append(list, strings.Repeat("0123456789 \x80\x00\xffz", n/15+1)[:n])
	}
	return list
}

// fronts are slices to which values are appended.
func fronts() [][]byte {
	return [][]byte{nil, {}, {0}, {128}, {255, 255}, []byte("front"), bytes.Repeat([]byte{129}, 200)}
}

// behinds are bytes that may follow a value.
func behinds() [][]byte {
	return [][]byte{nil, {0}, {1}, {127}, {128}, {255, 255, 255}, bytes.Repeat([]byte{255}, 20), []byte("behind")}
}

// P2.1
func TestPutKnownValues(t *testing.T) {
	for _, c := range []struct {
		name      string
		got, want []byte
	}{
		{"300", codec.PutUint(nil, 300), []byte{172, 2}},
		{"300, empty slice", codec.PutUint([]byte{}, 300), []byte{172, 2}},
		{"0", codec.PutUint(nil, 0), []byte{0}},
		{"127", codec.PutUint(nil, 127), []byte{127}},
		{"128", codec.PutUint(nil, 128), []byte{128, 1}},
		{"16383", codec.PutUint(nil, 16383), []byte{255, 127}},
		{"16384", codec.PutUint(nil, 16384), []byte{128, 128, 1}},
		{"greatest uint64", codec.PutUint(nil, math.MaxUint64), []byte{255, 255, 255, 255, 255, 255, 255, 255, 255, 1}},
		{"int 0", codec.PutInt(nil, 0), []byte{0}},
		{"int -1", codec.PutInt(nil, -1), []byte{1}},
		{"int 1", codec.PutInt(nil, 1), []byte{2}},
		{"int -2", codec.PutInt(nil, -2), []byte{3}},
		{"int 63", codec.PutInt(nil, 63), []byte{126}},
		{"int -64", codec.PutInt(nil, -64), []byte{127}},
		{"int 64", codec.PutInt(nil, 64), []byte{128, 1}},
		{"int -300", codec.PutInt(nil, -300), []byte{215, 4}},
		{"greatest int", codec.PutInt(nil, math.MaxInt), []byte{254, 255, 255, 255, 255, 255, 255, 255, 255, 1}},
		{"smallest int", codec.PutInt(nil, math.MinInt), []byte{255, 255, 255, 255, 255, 255, 255, 255, 255, 1}},
		{"ab", codec.PutText(nil, "ab"), []byte{2, 97, 98}},
		{"empty text", codec.PutText(nil, ""), []byte{0}},
		{"no UTF-8", codec.PutText(nil, "\xff\x00"), []byte{2, 255, 0}},
		{"true", codec.PutBool(nil, true), []byte{1}},
		{"false", codec.PutBool(nil, false), []byte{0}},
	} {
		if !bytes.Equal(c.got, c.want) {
			t.Errorf("%s: %v instead of %v", c.name, c.got, c.want)
		}
	}
}

// P2.1
func TestPutFollowsDefinition(t *testing.T) {
	for _, front := range fronts() {
		check := func(what any, got, value []byte) {
			if want := slices.Concat(front, value); !bytes.Equal(got, want) {
				t.Errorf("%v onto %d bytes: %v instead of %v", what, len(front), got, want)
			}
		}
		for _, n := range numbers() {
			check(n, codec.PutUint(front, n), bytesOfUint(n))
		}
		for _, n := range ints() {
			check(n, codec.PutInt(front, n), bytesOfUint(codeOf(n)))
		}
		for _, s := range texts() {
			check(len(s), codec.PutText(front, s), append(bytesOfUint(uint64(len(s))), s...))
		}
		check(true, codec.PutBool(front, true), []byte{1})
		check(false, codec.PutBool(front, false), []byte{0})
	}
}

// P2.1, and R3: the memory of the argument stays as it is, also that behind its length.
func TestPutSharesNoMemory(t *testing.T) {
	for name, put := range map[string]func(b []byte) []byte{
		"PutUint":       func(b []byte) []byte { return codec.PutUint(b, 300) },
		"PutInt":        func(b []byte) []byte { return codec.PutInt(b, -300) },
		"PutText":       func(b []byte) []byte { return codec.PutText(b, "text") },
		"empty PutText": func(b []byte) []byte { return codec.PutText(b, "") },
		"PutBool":       func(b []byte) []byte { return codec.PutBool(b, true) },
		"false PutBool": func(b []byte) []byte { return codec.PutBool(b, false) },
	} {
		memory := bytes.Repeat([]byte{77}, 64)
		for _, n := range []int{0, 1, 10, 63, 64} {
			b := memory[:n]
			first, second := put(b), put(b)
			want := slices.Clone(first)
			for i := range second {
				second[i] = 99
			}
			if !bytes.Equal(memory, bytes.Repeat([]byte{77}, 64)) {
				t.Fatalf("%s onto %d of 64 bytes: the memory is now %v", name, n, memory)
			}
			if !bytes.Equal(first, want) {
				t.Errorf("%s onto %d of 64 bytes: two results share memory", name, n)
			}
		}
	}
}

// checkUint compares Uint with P2.2, and Int with P2.3, for b and at.
func checkUint(t *testing.T, b []byte, at int) {
	t.Helper()
	n, end, e := codec.Uint(b, at)
	wantN, wantEnd, wantE := readUint(b, at)
	if n != wantN || end != wantEnd || e != wantE {
		t.Errorf("Uint of %v at %d: %d %d %d instead of %d %d %d", b, at, n, end, e, wantN, wantEnd, wantE)
	}
	i, end, e := codec.Int(b, at)
	if end != wantEnd || e != wantE || e == api.OK && codeOf(i) != wantN || e != api.OK && i != 0 {
		t.Errorf("Int of %v at %d: %d %d %d instead of the code %d, %d %d", b, at, i, end, e, wantN, wantEnd, wantE)
	}
}

// eachString calls visit with all strings of at most most bytes that are among those of the alphabet.
func eachString(alphabet []byte, most int, visit func(b []byte)) {
	list := [][]byte{{}}
	for len(list) > 0 {
		b := list[0]
		list = list[1:]
		visit(b)
		if len(b) == most {
			continue
		}
		for _, x := range alphabet {
			list = append(list, append(slices.Clip(slices.Clone(b)), x))
		}
	}
}

// P2.2
func TestUintErrors(t *testing.T) {
	ones := bytes.Repeat([]byte{255}, 12)
	low := bytes.Repeat([]byte{128}, 12)
	for _, c := range []struct {
		name string
		b    []byte
		at   int
		want api.Errno
	}{
		{"negative at", []byte{5}, -1, api.ErrRange},
		{"smallest at", []byte{5}, math.MinInt, api.ErrRange},
		{"at behind the length", []byte{5}, 2, api.ErrRange},
		{"greatest at", []byte{5}, math.MaxInt, api.ErrRange},
		{"at 1 of nil", nil, 1, api.ErrRange},
		{"at -1 of nil", nil, -1, api.ErrRange},
		{"nil", nil, 0, api.ErrTruncated},
		{"empty", []byte{}, 0, api.ErrTruncated},
		{"at the length", []byte{5}, 1, api.ErrTruncated},
		{"128", []byte{128}, 0, api.ErrTruncated},
		{"128 behind another number", []byte{5, 128}, 1, api.ErrTruncated},
		{"nine of 255", ones[:9], 0, api.ErrTruncated},
		{"nine of 128", low[:9], 0, api.ErrTruncated},
		{"nine of 255 behind three", ones, 3, api.ErrTruncated},
		{"ten of 255", ones[:10], 0, api.ErrTooLong},
		{"ten of 128", low[:10], 0, api.ErrTooLong},
		{"ten of 255 behind two", ones, 2, api.ErrTooLong},
		{"eleven of 255", ones[:11], 0, api.ErrTooLong},
		{"ten of 255 and 1", slices.Concat(ones[:10], []byte{1}), 0, api.ErrTooLong},
		{"tenth byte 2", slices.Concat(ones[:9], []byte{2}), 0, api.ErrTooLong},
		{"tenth byte 127", slices.Concat(low[:9], []byte{127}), 0, api.ErrTooLong},
		{"tenth byte 0", slices.Concat(ones[:9], []byte{0}), 0, api.ErrSyntax},
		{"tenth byte 1", slices.Concat(ones[:9], []byte{1}), 0, api.OK},
		{"ninth byte 127", slices.Concat(ones[:8], []byte{127}), 0, api.OK},
		{"128, 0", []byte{128, 0}, 0, api.ErrSyntax},
		{"255, 0", []byte{255, 0}, 0, api.ErrSyntax},
		{"129, 128, 0", []byte{129, 128, 0}, 0, api.ErrSyntax},
		{"0", []byte{0}, 0, api.OK},
		{"0 behind 128", []byte{128, 0}, 1, api.OK},
	} {
		if _, _, e := codec.Uint(c.b, c.at); e != c.want {
			t.Errorf("%s: error %d instead of %d", c.name, e, c.want)
		}
		checkUint(t, c.b, c.at)
	}
}

// P2.2, P2.3
func TestUintFollowsDefinition(t *testing.T) {
	eachString([]byte{0, 1, 2, 127, 128, 129, 255}, 4, func(b []byte) {
		before := slices.Clone(b)
		for at := -2; at <= len(b)+2; at++ {
			checkUint(t, b, at)
		}
		if !bytes.Equal(b, before) {
			t.Errorf("%v has become %v", before, b)
		}
	})
	eachString([]byte{128, 255}, 11, func(b []byte) {
		for _, last := range []byte{0, 1, 2, 3, 64, 126, 127} {
			long := slices.Concat(b, []byte{last, 1})
			for at := range len(long) + 1 {
				checkUint(t, long, at)
			}
		}
	})
	for n := range 12 {
		for last := range 256 {
			checkUint(t, append(bytes.Repeat([]byte{200}, n), byte(last)), 0)
		}
	}
}

// P2.3
func TestIntKnownCodes(t *testing.T) {
	for _, c := range []struct {
		b    []byte
		want int
	}{
		{[]byte{0}, 0}, {[]byte{1}, -1}, {[]byte{2}, 1}, {[]byte{3}, -2}, {[]byte{4}, 2},
		{[]byte{127}, -64}, {[]byte{128, 1}, 64}, {[]byte{215, 4}, -300}, {[]byte{216, 4}, 300},
		{[]byte{254, 255, 255, 255, 255, 255, 255, 255, 255, 1}, math.MaxInt},
		{[]byte{255, 255, 255, 255, 255, 255, 255, 255, 255, 1}, math.MinInt},
	} {
		if n, end, e := codec.Int(c.b, 0); n != c.want || end != len(c.b) || e != api.OK {
			t.Errorf("%v: %d %d %d instead of %d", c.b, n, end, e, c.want)
		}
	}
}

// P2.4
func TestTextKnownBytes(t *testing.T) {
	ab := []byte{2, 97, 98}
	far := []byte{255, 255, 255, 255, 255, 255, 255, 255, 255, 1, 97}
	for _, c := range []struct {
		name     string
		b        []byte
		at, most int
		want     string
		end      int
		e        api.Errno
	}{
		{"most is the length", ab, 0, 2, "ab", 3, api.OK},
		{"most is greater", ab, 0, math.MaxInt, "ab", 3, api.OK},
		{"most is one less", ab, 0, 1, "", 0, api.ErrTooLong},
		{"most is 0", ab, 0, 0, "", 0, api.ErrTooLong},
		{"most is negative", ab, 0, -1, "", 0, api.ErrTooLong},
		{"most is the smallest int", ab, 0, math.MinInt, "", 0, api.ErrTooLong},
		{"empty", []byte{0}, 0, 0, "", 1, api.OK},
		{"empty, at the end", []byte{7, 0}, 1, 5, "", 2, api.OK},
		{"empty, most is negative", []byte{0}, 0, -1, "", 0, api.ErrTooLong},
		{"negative at", ab, -1, 9, "", 0, api.ErrRange},
		{"smallest at", ab, math.MinInt, 9, "", 0, api.ErrRange},
		{"at behind the length", ab, 4, 9, "", 0, api.ErrRange},
		{"greatest at", ab, math.MaxInt, 9, "", 0, api.ErrRange},
		{"error of at before that of most", ab, 4, -1, "", 0, api.ErrRange},
		{"at the length", ab, 3, 9, "", 0, api.ErrTruncated},
		{"error of the number before that of most", ab, 3, -1, "", 0, api.ErrTruncated},
		{"nil", nil, 0, 9, "", 0, api.ErrTruncated},
		{"length of two forms", []byte{130, 0, 97, 98}, 0, 9, "", 0, api.ErrSyntax},
		{"number of two forms before most", []byte{130, 0, 97, 98}, 0, -1, "", 0, api.ErrSyntax},
		{"number too long", bytes.Repeat([]byte{255}, 10), 0, 9, "", 0, api.ErrTooLong},
		{"one byte missing", ab[:2], 0, 2, "", 0, api.ErrTruncated},
		{"all bytes missing", ab[:1], 0, 2, "", 0, api.ErrTruncated},
		{"most before what is missing", ab[:1], 0, 1, "", 0, api.ErrTooLong},
		{"greatest length", far, 0, math.MaxInt, "", 0, api.ErrTooLong},
		{"length of the greatest int", codec.PutUint(nil, math.MaxInt), 0, math.MaxInt, "", 0, api.ErrTruncated},
		{"length of the greatest int and a byte", append(codec.PutUint(nil, math.MaxInt), 97), 0, math.MaxInt, "", 0, api.ErrTruncated},
		{"length above the greatest int", codec.PutUint(nil, math.MaxInt+1), 0, math.MaxInt, "", 0, api.ErrTooLong},
		{"spare bytes in front and behind", []byte{9, 9, 2, 97, 98, 9}, 2, 2, "ab", 5, api.OK},
	} {
		s, end, e := codec.Text(c.b, c.at, c.most)
		if s != c.want || end != c.end || e != c.e {
			t.Errorf("%s: %q %d %d instead of %q %d %d", c.name, s, end, e, c.want, c.end, c.e)
		}
	}
}

// P2.4: the bytes behind the length of a slice are not among those that follow.
func TestTextIgnoresSpareCapacity(t *testing.T) {
	memory := []byte{3, 97, 98, 99}
	if s, end, e := codec.Text(memory[:3], 0, 9); s != "" || end != 0 || e != api.ErrTruncated {
		t.Error(s, end, e)
	}
}

// P2.4, and R3: the text is not changed with the bytes from which it was read.
func TestTextSharesNoMemory(t *testing.T) {
	b := []byte{2, 97, 98}
	s, _, _ := codec.Text(b, 0, 2)
	b[1] = 120
	if s != "ab" {
		t.Errorf("the text has become %q", s)
	}
}

// P2.4
func TestTextFollowsDefinition(t *testing.T) {
	eachString([]byte{0, 1, 2, 3, 97, 128, 255}, 4, func(b []byte) {
		for at := -1; at <= len(b)+1; at++ {
			for most := -2; most <= 4; most++ {
				checkText(t, b, at, most)
			}
		}
	})
}

// checkText compares Text with P2.4.
func checkText(t *testing.T, b []byte, at, most int) {
	t.Helper()
	want, wantEnd := "", 0
	length, from, wantE := readUint(b, at)
	switch {
	case wantE != api.OK:
	case most < 0 || length > uint64(most):
		wantE = api.ErrTooLong
	case from+int(length) > len(b):
		wantE = api.ErrTruncated
	default:
		wantEnd = from + int(length)
		want = string(b[from:wantEnd])
	}
	if s, end, e := codec.Text(b, at, most); s != want || end != wantEnd || e != wantE {
		t.Errorf("%v at %d, most %d: %q %d %d instead of %q %d %d", b, at, most, s, end, e, want, wantEnd, wantE)
	}
}

// P2.4
func TestBool(t *testing.T) {
	for _, c := range []struct {
		name string
		b    []byte
		at   int
		want bool
		end  int
		e    api.Errno
	}{
		{"false", []byte{0}, 0, false, 1, api.OK},
		{"true", []byte{1}, 0, true, 1, api.OK},
		{"false behind true", []byte{1, 0}, 1, false, 2, api.OK},
		{"true between others", []byte{9, 9, 1, 9}, 2, true, 3, api.OK},
		{"negative at", []byte{1}, -1, false, 0, api.ErrRange},
		{"smallest at", []byte{1}, math.MinInt, false, 0, api.ErrRange},
		{"at behind the length", []byte{1}, 2, false, 0, api.ErrRange},
		{"greatest at", []byte{1}, math.MaxInt, false, 0, api.ErrRange},
		{"at 1 of nil", nil, 1, false, 0, api.ErrRange},
		{"at the length", []byte{1}, 1, false, 0, api.ErrTruncated},
		{"at the length, not of the capacity", []byte{1, 1}[:1], 1, false, 0, api.ErrTruncated},
		{"nil", nil, 0, false, 0, api.ErrTruncated},
		{"number too long", bytes.Repeat([]byte{255}, 10), 0, false, 0, api.ErrSyntax},
	} {
		v, end, e := codec.Bool(c.b, c.at)
		if v != c.want || end != c.end || e != c.e {
			t.Errorf("%s: %v %d %d instead of %v %d %d", c.name, v, end, e, c.want, c.end, c.e)
		}
	}
	for x := 2; x < 256; x++ {
		if v, end, e := codec.Bool([]byte{byte(x)}, 0); v || end != 0 || e != api.ErrSyntax {
			t.Errorf("byte %d: %v %d %d", x, v, end, e)
		}
	}
}

// P2.5
func TestBack(t *testing.T) {
	for _, front := range fronts() {
		for _, behind := range behinds() {
			at := len(front)
			check := func(what any, same bool, end, size int, e api.Errno) {
				if !same || end != size || e != api.OK {
					t.Errorf("%v between %v and %v: same %v, end %d of %d, error %d", what, front, behind, same, end, size, e)
				}
			}
			for _, want := range numbers() {
				b := codec.PutUint(front, want)
				n, end, e := codec.Uint(slices.Concat(b, behind), at)
				check(want, n == want, end, len(b), e)
			}
			for _, want := range ints() {
				b := codec.PutInt(front, want)
				n, end, e := codec.Int(slices.Concat(b, behind), at)
				check(want, n == want, end, len(b), e)
			}
			for _, want := range texts() {
				b := codec.PutText(front, want)
				s, end, e := codec.Text(slices.Concat(b, behind), at, len(want))
				check(len(want), s == want, end, len(b), e)
			}
			for _, want := range []bool{false, true} {
				b := codec.PutBool(front, want)
				v, end, e := codec.Bool(slices.Concat(b, behind), at)
				check(want, v == want, end, len(b), e)
			}
		}
	}
}

// P2.6
func TestOneForm(t *testing.T) {
	check := func(b []byte) {
		for at := range len(b) + 1 {
			compare := func(what string, end int, e api.Errno, written []byte) {
				if e == api.OK && !bytes.Equal(b[at:end], written) {
					t.Errorf("%s of %v at %d: read up to %d, but written as %v", what, b, at, end, written)
				}
			}
			n, end, e := codec.Uint(b, at)
			compare("Uint", end, e, codec.PutUint(nil, n))
			i, end, e := codec.Int(b, at)
			compare("Int", end, e, codec.PutInt(nil, i))
			s, end, e := codec.Text(b, at, math.MaxInt)
			compare("Text", end, e, codec.PutText(nil, s))
			v, end, e := codec.Bool(b, at)
			compare("Bool", end, e, codec.PutBool(nil, v))
		}
	}
	eachString([]byte{0, 1, 2, 3, 127, 128, 129, 255}, 4, check)
	eachString([]byte{0, 1, 2, 127}, 3, func(b []byte) {
		for n := 6; n <= 11; n++ {
			check(append(bytes.Repeat([]byte{128}, n), b...))
			check(append(bytes.Repeat([]byte{255}, n), b...))
		}
	})
	for x := range 1 << 16 {
		check([]byte{byte(x), byte(x >> 8)})
	}
}

// P2.7
func TestPrefixes(t *testing.T) {
	for _, front := range fronts() {
		at := len(front)
		for _, n := range numbers() {
			b := codec.PutUint(front, n)
			for size := at; size < len(b); size++ {
				if m, end, e := codec.Uint(b[:size], at); m != 0 || end != 0 || e != api.ErrTruncated {
					t.Errorf("Uint of %d bytes of %v at %d: %d %d %d", size, b, at, m, end, e)
				}
			}
		}
		for _, n := range ints() {
			b := codec.PutInt(front, n)
			for size := at; size < len(b); size++ {
				if m, end, e := codec.Int(b[:size], at); m != 0 || end != 0 || e != api.ErrTruncated {
					t.Errorf("Int of %d bytes of %v at %d: %d %d %d", size, b, at, m, end, e)
				}
			}
		}
		for _, text := range texts() {
			b := codec.PutText(front, text)
			for size := at; size < len(b); size++ {
				if s, end, e := codec.Text(b[:size], at, len(text)); s != "" || end != 0 || e != api.ErrTruncated {
					t.Errorf("Text of %d bytes of a text of %d at %d: %q %d %d", size, len(text), at, s, end, e)
				}
			}
		}
		if v, end, e := codec.Bool(front, at); v || end != 0 || e != api.ErrTruncated {
			t.Errorf("Bool at the end of %v: %v %d %d", front, v, end, e)
		}
	}
}
