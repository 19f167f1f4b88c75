package cartridge_test

import (
	"math"
	"strings"
	"testing"

	"tapearchive/api"
	"tapearchive/cartridge"
)

// checkMarks checks Marks against what it must return.
func checkMarks(t *testing.T, c api.Cartridge, at, n int) {
	t.Helper()
	want, wantError := marks(c, at, n)
	if got, e := cartridge.Marks(c, at, n); got != want || e != wantError {
		t.Errorf("%s: Marks(%d, %d): %d, %d, want %d, %d", name(c), at, n, got, e, want, wantError)
	}
}

// P10.5: from each place, for as many marks as there are, and for more
func TestMarks(t *testing.T) {
	const least, most = math.MinInt, math.MaxInt
	for _, x := range []struct {
		letters     string
		at, n, want int
		e           api.Errno
	}{
		{"amam", 0, 1, 2, api.OK}, {"amam", 2, 1, 4, api.OK}, {"amam", 1, 2, 4, api.OK}, // the chapter's examples
		{"amam", 0, 2, 4, api.OK}, {"amam", 1, 1, 2, api.OK}, {"amam", 3, 1, 4, api.OK}, {"amam", 0, 3, 0, api.ErrNotFound}, {"amam", 1, 3, 0, api.ErrNotFound}, {"amam", 2, 2, 0, api.ErrNotFound}, {"amam", 3, 2, 0, api.ErrNotFound}, {"amam", 4, 1, 0, api.ErrNotFound},
		{"amam", 0, 0, 0, api.OK}, {"amam", 1, 0, 1, api.OK}, {"amam", 3, 0, 3, api.OK}, {"amam", 4, 0, 4, api.OK},
		{"amam", 5, 0, 0, api.ErrRange}, {"amam", 5, 1, 0, api.ErrRange}, {"amam", -1, 0, 0, api.ErrRange}, {"amam", -1, 1, 0, api.ErrRange}, {"amam", 0, -1, 0, api.ErrRange}, {"amam", 4, -1, 0, api.ErrRange}, {"amam", 5, -1, 0, api.ErrRange}, {"amam", -1, -1, 0, api.ErrRange}, {"amam", 5, 9, 0, api.ErrRange}, {"amam", -1, 9, 0, api.ErrRange},
		{"amamb", 4, 0, 4, api.OK}, {"amamb", 4, 1, 0, api.ErrNotFound}, {"amamb", 5, 0, 5, api.OK}, {"amamb", 5, 1, 0, api.ErrNotFound}, {"amamb", 0, 2, 4, api.OK}, // behind the last mark
		{"mmm", 0, 1, 1, api.OK}, {"mmm", 0, 2, 2, api.OK}, {"mmm", 0, 3, 3, api.OK}, {"mmm", 0, 4, 0, api.ErrNotFound}, {"mmm", 2, 1, 3, api.OK}, {"mmm", 3, 1, 0, api.ErrNotFound},
		{"aMam", 0, 1, 4, api.OK}, {"aMam", 1, 1, 4, api.OK}, {"aMam", 0, 2, 0, api.ErrNotFound}, {"aMam", 0, 0, 0, api.OK}, {"aMam", 1, 0, 1, api.OK}, // bad marks
		{"MMM", 0, 1, 0, api.ErrNotFound}, {"MMM", 3, 0, 3, api.OK}, {"MmM", 0, 1, 2, api.OK}, {"MmM", 0, 2, 0, api.ErrNotFound}, {"mMm", 0, 2, 3, api.OK}, {"mMm", 1, 1, 3, api.OK},
		{"AmBm", 0, 2, 4, api.OK}, {"ABCD", 0, 1, 0, api.ErrNotFound}, {"abcd", 0, 1, 0, api.ErrNotFound}, {"abcd", 4, 0, 4, api.OK},
		{"", 0, 0, 0, api.OK}, {"", 0, 1, 0, api.ErrNotFound}, {"", 1, 0, 0, api.ErrRange}, {"", -1, 0, 0, api.ErrRange}, {"", 0, -1, 0, api.ErrRange},
		{"amam", 0, most, 0, api.ErrNotFound}, {"amam", 4, most, 0, api.ErrNotFound}, {"amam", most, 0, 0, api.ErrRange}, {"amam", most, most, 0, api.ErrRange}, {"amam", least, 0, 0, api.ErrRange}, {"amam", 0, least, 0, api.ErrRange}, {"amam", least, least, 0, api.ErrRange},
	} {
		for _, c := range []api.Cartridge{holding(9, x.letters), once(9, x.letters), locked(9, x.letters), holding(max(1, len(x.letters)), x.letters)} {
			if n, e := cartridge.Marks(c, x.at, x.n); n != x.want || e != x.e {
				t.Errorf("%s: Marks(%d, %d): %d, %d, want %d, %d", name(c), x.at, x.n, n, e, x.want, x.e)
			}
			checkMarks(t, c, x.at, x.n)
		}
	}
}

// P10.5: all cartridges of up to six blocks, which are marks or data, bad or not
func TestAllMarks(t *testing.T) {
	lists := []string{""}
	for from := 0; len(lists[from]) < 6; from++ {
		for _, letter := range []string{"m", "M", "a", "A"} {
			lists = append(lists, lists[from]+letter)
		}
	}
	for _, letters := range lists {
		c := holding(6, letters)
		for at := -1; at <= len(letters)+1; at++ {
			for n := -1; n <= len(letters)+1; n++ {
				checkMarks(t, c, at, n)
			}
		}
	}
}

// P10.5: the extreme ints, and great cartridges
func TestGreatMarks(t *testing.T) {
	var r random
	g := api.Geometry{Wraps: 32, Length: 128}
	for _, letters := range []string{"", "amam", strings.Repeat("m", 4096), r.letters(4096, "mMaA"), r.letters(4000, "aaaaaaaaam")} {
		c := api.Cartridge{Barcode: "A", Geometry: g, Blocks: blocks(letters)}
		for _, v := range append(extremes(), -1, 0, 1, 3999, 4000, 4001, 4095, 4096) {
			for _, w := range append(extremes(), -1, 0, 1, 3, 4095, 4096) {
				checkMarks(t, c, v, w)
			}
		}
		for range 100 {
			checkMarks(t, c, r.below(len(letters)+1), r.below(2000))
		}
	}
}
