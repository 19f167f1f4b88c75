package cartridge_test

import (
	"math"
	"strings"
	"testing"

	"tapearchive/api"
	"tapearchive/cartridge"
)

// checkRead checks Read against what it must return.
func checkRead(t *testing.T, c api.Cartridge, from, count int) {
	t.Helper()
	s := api.Span{From: from, Count: count}
	want, wantError := read(c, s)
	if l, e := cartridge.Read(c, s); e != wantError || !sameBlocks(l, want) {
		t.Errorf("%s: Read(%+v): %s, %d, want %s, %d", name(c), s, text(l), e, text(want), wantError)
	}
}

// P10.4: spans before, at and behind the end of data, with and without bad blocks
func TestRead(t *testing.T) {
	const most = math.MaxInt
	for _, x := range []struct {
		letters     string
		from, count int
		want        string
		e           api.Errno
	}{
		{"amczm", 0, 5, "amczm", api.OK}, {"amczm", 0, 1, "a", api.OK}, {"amczm", 1, 1, "m", api.OK}, {"amczm", 2, 2, "cz", api.OK}, {"amczm", 4, 1, "m", api.OK},
		{"amczm", 0, 0, "", api.OK}, {"amczm", 3, 0, "", api.OK}, {"amczm", 5, 0, "", api.OK}, {"amczm", 6, 0, "", api.OK}, {"amczm", 9, 0, "", api.OK}, {"amczm", most, 0, "", api.OK},
		{"amczm", 0, 6, "amczm", api.ErrRange}, {"amczm", 4, 2, "m", api.ErrRange}, {"amczm", 5, 1, "", api.ErrRange}, {"amczm", 6, 1, "", api.ErrRange}, {"amczm", 7, 5, "", api.ErrRange}, {"amczm", 100, 1, "", api.ErrRange},
		{"amczm", -1, 1, "", api.ErrRange}, {"amczm", -1, 0, "", api.ErrRange}, {"amczm", -1, 2, "", api.ErrRange}, {"amczm", 0, -1, "", api.ErrRange}, {"amczm", 3, -1, "", api.ErrRange}, {"amczm", 5, -5, "", api.ErrRange}, {"amczm", -1, -1, "", api.ErrRange}, {"amczm", -5, 10, "", api.ErrRange},
		{"", 0, 0, "", api.OK}, {"", 0, 1, "", api.ErrRange}, {"", 1, 0, "", api.OK}, {"", 1, 1, "", api.ErrRange}, {"", -1, 0, "", api.ErrRange}, {"", 0, -1, "", api.ErrRange}, {"", 0, most, "", api.ErrRange},
		{"aBcdEf", 0, 6, "a", api.ErrMedia}, {"aBcdEf", 0, 2, "a", api.ErrMedia}, {"aBcdEf", 0, 1, "a", api.OK}, {"aBcdEf", 1, 1, "", api.ErrMedia}, {"aBcdEf", 1, 5, "", api.ErrMedia}, {"aBcdEf", 2, 2, "cd", api.OK}, {"aBcdEf", 2, 3, "cd", api.ErrMedia}, {"aBcdEf", 2, 4, "cd", api.ErrMedia}, {"aBcdEf", 5, 1, "f", api.OK},
		{"aBcdEf", 1, 0, "", api.OK}, {"aBcdEf", 4, 0, "", api.OK}, // none is read
		{"aBcdEf", 0, 7, "a", api.ErrMedia}, {"aBcdEf", 2, 5, "cd", api.ErrMedia}, {"aBcdEf", 4, 3, "", api.ErrMedia}, {"aBcdEf", 5, 2, "f", api.ErrRange}, // bad blocks in spans that go beyond the end of data
		{"aBcdEf", 2, most, "cd", api.ErrMedia}, {"aBcdEf", 5, most, "f", api.ErrRange}, {"aBcdEf", 5, most - 5, "f", api.ErrRange}, {"aBcdEf", 5, most - 4, "f", api.ErrRange}, // the sum of some is not exact
		{"abM", 0, 3, "ab", api.ErrMedia}, {"Mab", 0, 3, "", api.ErrMedia}, {"Mab", 1, 2, "ab", api.OK}, {"abM", 0, 2, "ab", api.OK}, {"abZ", 2, 2, "", api.ErrMedia}, {"ABC", 1, 2, "", api.ErrMedia},
		{"abc", most, 1, "", api.ErrRange}, {"abc", most, most, "", api.ErrRange}, {"abc", most - 1, 2, "", api.ErrRange}, {"abc", 2, most, "c", api.ErrRange}, {"abc", 3, most, "", api.ErrRange}, {"abc", 1 << 62, 1 << 62, "", api.ErrRange}, {"abc", math.MinInt, math.MinInt, "", api.ErrRange}, {"abc", math.MinInt, most, "", api.ErrRange}, {"abc", 0, math.MinInt, "", api.ErrRange}, {"ABC", most, most, "", api.ErrRange}, {"ABC", -1, 1, "", api.ErrRange}, {"ABC", 0, -1, "", api.ErrRange},
	} {
		for _, c := range []api.Cartridge{holding(9, x.letters), once(9, x.letters), locked(9, x.letters), holding(max(1, len(x.letters)), x.letters)} {
			l, e := cartridge.Read(c, api.Span{From: x.from, Count: x.count})
			if e != x.e || text(l) != x.want {
				t.Errorf("%s: Read of %d from %d: %s, %d, want %s, %d", name(c), x.count, x.from, text(l), e, x.want, x.e)
			}
			checkRead(t, c, x.from, x.count)
		}
	}
}

// P10.4: all spans of cartridges with bad blocks at all places
func TestAllReads(t *testing.T) {
	for n := range 7 {
		for bad := range 1 << n {
			letters := []byte("amczmb"[:n])
			for i := range letters {
				if bad>>i&1 == 1 {
					letters[i] -= 0x20
				}
			}
			c := holding(6, string(letters))
			for from := -2; from <= 9; from++ {
				for count := -2; count <= 9; count++ {
					checkRead(t, c, from, count)
				}
			}
			for _, v := range extremes() {
				for w := -1; w <= 7; w++ {
					checkRead(t, c, v, w)
					checkRead(t, c, w, v)
				}
			}
		}
	}
}

// P10.4: the extreme ints in both numbers
func TestExtremeReads(t *testing.T) {
	for _, letters := range []string{"", "abc", "aBc", "ABCDEF"} {
		for _, v := range extremes() {
			for _, w := range extremes() {
				checkRead(t, holding(6, letters), v, w)
			}
		}
	}
}

// P10.4: great cartridges
func TestGreatReads(t *testing.T) {
	var r random
	for _, among := range []string{"amz", strings.Repeat("amz", 100) + "Z"} {
		c := api.Cartridge{Barcode: "A", Geometry: api.Geometry{Wraps: 32, Length: 128}, Blocks: blocks(r.letters(4096, among))}
		for _, s := range []api.Span{{From: 0, Count: 4096}, {From: 0, Count: 4097}, {From: 4095, Count: 1}, {From: 4095, Count: 2}, {From: 4096, Count: 0}, {From: 4096, Count: 1}, {From: 4097, Count: 0}} {
			checkRead(t, c, s.From, s.Count)
		}
		for range 50 {
			checkRead(t, c, r.below(4100), r.below(100))
		}
	}
}
