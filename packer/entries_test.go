package packer_test

import (
	"math"
	"slices"
	"testing"

	"tapearchive/api"
	"tapearchive/packer"
)

// accept checks that Entries takes its arguments, and returns this payload.
func accept(t *testing.T, what string, x arguments, payload string) entered {
	t.Helper()
	got := entries(t, x)
	if got.e != api.OK || len(got.entries) != len(x.l) || string(got.payload) != payload {
		t.Errorf("%s: Entries of %s: %s", what, short(x), short(got))
	}
	return got
}

// reject checks that Entries returns an error.
func reject(t *testing.T, what string, x arguments, want api.Errno) {
	t.Helper()
	if got := entries(t, x); got.e != want || len(got.entries) != 0 || len(got.payload) != 0 {
		t.Errorf("%s: Entries of %s: %s, want the error %d", what, short(x), short(got), want)
	}
}

// digits returns arguments with two files and an empty one, and these pieces.
func digits(l ...packer.Piece) arguments {
	return arguments{l, []int{7, 8, 9}, []int{1, 2, 3}, [][]byte{[]byte("123456789"), []byte("abc"), nil}}
}

// P16.5: pieces of several files, in any order
func TestEntries(t *testing.T) {
	got := accept(t, "whole files", digits(piece(0, 0, 9), piece(1, 0, 3)), "123456789abc")
	// The CRC-32C of the nine digits is 0xE3069283, that of "abc" 0x364B3FB7.
	if want := []api.Entry{{File: 7, Version: 1, Length: 9, Sum: 0xE3069283}, {File: 8, Version: 2, Length: 3, Sum: 0x364B3FB7}}; !slices.Equal(got.entries, want) {
		t.Errorf("%+v, want %+v", got.entries, want)
	}
	got = accept(t, "parts", digits(piece(1, 1, 2), piece(0, 5, 4), piece(2, 0, 0), piece(1, 0, 1)), "bc6789a")
	for i, want := range []api.Entry{{File: 8, Version: 2, Offset: 1, Length: 2}, {File: 7, Version: 1, Offset: 5, Length: 4}, {File: 9, Version: 3}, {File: 8, Version: 2, Length: 1}} {
		if x := got.entries[i]; x.File != want.File || x.Version != want.Version || x.Offset != want.Offset || x.Length != want.Length {
			t.Errorf("entry %d: %+v, want %+v", i, x, want)
		}
	}
	accept(t, "one piece", digits(piece(0, 3, 1)), "4")
	accept(t, "no pieces", digits(), "")
	accept(t, "no files and no pieces", arguments{}, "")
}

// P16.5: the same file in several pieces, which may overlap
func TestEntriesOfOneFile(t *testing.T) {
	accept(t, "in order", digits(piece(0, 0, 4), piece(0, 4, 4), piece(0, 8, 1)), "123456789")
	accept(t, "backward", digits(piece(0, 8, 1), piece(0, 4, 4), piece(0, 0, 4)), "956781234")
	accept(t, "overlapping", digits(piece(0, 0, 5), piece(0, 3, 5), piece(0, 0, 9)), "1234545678123456789")
	accept(t, "the same bytes", digits(piece(1, 1, 1), piece(1, 1, 1), piece(1, 1, 1)), "bbb")
	for _, n := range []int{1, 2, 63, 64} {
		x := files([]int{100}, slices.Repeat([]packer.Piece{piece(0, 0, 100)}, n)...)
		accept(t, "often", x, string(slices.Repeat(mixed(100), n)))
	}
}

// P16.5: pieces and files without bytes
func TestEntriesWithoutBytes(t *testing.T) {
	got := accept(t, "in a file without bytes", digits(piece(2, 0, 0), piece(0, 0, 2), piece(2, 0, 0)), "12")
	if x := got.entries[0]; x != (api.Entry{File: 9, Version: 3}) || got.entries[2] != x {
		t.Errorf("%+v", got.entries)
	}
	got = accept(t, "at all places of a file", digits(piece(1, 0, 0), piece(1, 1, 0), piece(1, 2, 0), piece(1, 3, 0)), "")
	for i, x := range got.entries {
		if x != (api.Entry{File: 8, Version: 2, Offset: i}) {
			t.Errorf("entry %d: %+v", i, x)
		}
	}
	reject(t, "behind a file without bytes", digits(piece(2, 1, 0)), api.ErrRange)
	reject(t, "a byte of a file without bytes", digits(piece(2, 0, 1)), api.ErrRange)
}

// P16.5: ids, versions and data of different lengths
func TestLengthsOfLists(t *testing.T) {
	for ids := range 5 {
		for versions := range 5 {
			for data := range 5 {
				x := arguments{ids: of(ids, 3), versions: of(versions, 4), data: make([][]byte, data)}
				for _, x.l = range [][]packer.Piece{nil, {piece(min(ids, versions, data)-1, 0, 0)}} {
					switch {
					case ids != versions || ids != data:
						reject(t, "different lengths", x, api.ErrInvalid)
					case ids > 0 || len(x.l) == 0:
						accept(t, "equal lengths", x, "")
					default:
						reject(t, "a piece of no files", x, api.ErrRange)
					}
				}
			}
		}
	}
	for _, n := range []int{64, 65, 512, 513, 5000} {
		accept(t, "many files", files(of(n, 3), piece(n-1, 0, 3)), string(mixed(3)))
	}
}

// P16.5: every number of a file and every version, at each place, also of files without a piece
func TestNumbers(t *testing.T) {
	for at := range 3 {
		for _, n := range ints() {
			for _, l := range [][]packer.Piece{nil, {piece(at, 0, 0)}, {piece((at+1)%3, 0, 0)}} {
				for which := range 2 {
					x := digits(l...)
					[][]int{x.ids, x.versions}[which][at] = n
					if n < 1 || n > 1<<50 {
						reject(t, "a number that is not permitted", x, api.ErrInvalid)
						continue
					}
					got := accept(t, "a number", x, "")
					if len(l) > 0 && l[0].File == at && [2]int{got.entries[0].File, got.entries[0].Version}[which] != n {
						t.Errorf("%d: %+v", n, got.entries)
					}
				}
			}
		}
	}
	x := digits(piece(0, 0, 1), piece(1, 0, 1))
	x.ids, x.versions = of(3, 5), of(3, 6)
	accept(t, "equal numbers", x, "1a")
}

// P16.5: numbers of pieces
func TestNumbersOfPieces(t *testing.T) {
	for _, n := range []int{0, 1, 2, 32, 63, 64} {
		accept(t, "pieces without bytes", digits(nothing(n)...), "")
		accept(t, "pieces of a byte", digits(slices.Repeat([]packer.Piece{piece(1, 2, 1)}, n)...), string(slices.Repeat([]byte{'c'}, n)))
	}
	for _, n := range []int{65, 66, 128, 1000} {
		reject(t, "too many pieces", digits(nothing(n)...), api.ErrTooLong)
	}
}

// P16.5: every File, at each place of the list
func TestFilesOfPieces(t *testing.T) {
	for _, n := range []int{1, 2, 3, 64} {
		for _, at := range []int{0, n / 2, n - 1} {
			for _, file := range ints() {
				x := digits(nothing(n)...)
				x.l[at].File = file
				if file >= 0 && file <= 2 {
					accept(t, "a file", x, "")
					continue
				}
				reject(t, "no file", x, api.ErrRange)
			}
		}
	}
	accept(t, "the last file", files([]int{2, 3, 4}, piece(2, 0, 4)), string(mixed(4)))
	reject(t, "one beyond it", files([]int{2, 3, 4}, piece(3, 0, 0)), api.ErrRange)
	reject(t, "the one before the first one", files([]int{2, 3, 4}, piece(-1, 0, 0)), api.ErrRange)
}

// P16.5: all Offsets and Lengths of small files, and every two ints
func TestPlacesOfPieces(t *testing.T) {
	for size := range 6 {
		for offset := -2; offset <= size+2; offset++ {
			for length := -2; length <= size+2; length++ {
				x := files([]int{3, size, 3}, piece(0, 0, 1), piece(1, offset, length))
				if offset < 0 || length < 0 || offset+length > size {
					reject(t, "beyond the file", x, api.ErrRange)
					continue
				}
				accept(t, "in the file", x, string(mixed(3)[:1])+string(mixed(size)[offset:offset+length]))
			}
		}
	}
	for _, size := range []int{0, 1, 64, 4095, 4096} {
		for _, offset := range append(ints(), size-1, size, size+1) {
			for _, length := range append(ints(), size-1, size, size+1, size-offset, size-offset+1, size-offset-1) {
				entries(t, files([]int{size}, piece(0, offset, length)))
			}
		}
	}
}

// P16.5: sums of Offset and Length that are greater than the greatest int
func TestGreatPieces(t *testing.T) {
	for _, x := range [][2]int{{1, math.MaxInt}, {math.MaxInt, 1}, {math.MaxInt, math.MaxInt}, {9, math.MaxInt - 8}, {5, math.MaxInt - 4}, {1 << 62, 1 << 62}, {math.MinInt, math.MinInt}, {math.MinInt, math.MaxInt}, {math.MaxInt, math.MinInt}, {-1, 2}, {2, -1}, {9, -9}} {
		reject(t, "a piece that is too great", digits(piece(0, x[0], x[1])), api.ErrRange)
		reject(t, "behind another one", digits(piece(1, 0, 3), piece(0, x[0], x[1])), api.ErrRange)
	}
}

// P16.5: data of any length is taken, also of more than MaxData bytes.
func TestEntriesOfLongFiles(t *testing.T) {
	for _, size := range []int{4095, 4096, 4097, 100000} {
		accept(t, "whole", files([]int{size}, piece(0, 0, size)), string(mixed(size)))
		accept(t, "the last byte", files([]int{size}, piece(0, size-1, 1)), string(mixed(size)[size-1:]))
		accept(t, "the end", files([]int{size}, piece(0, size, 0)), "")
		reject(t, "behind it", files([]int{size}, piece(0, 1, size)), api.ErrRange)
	}
	accept(t, "the greatest payload", files(of(64, 4096), each(0, 63, 4096)...), string(slices.Repeat(mixed(4096), 64)))
}

// P16.5: random pieces, some of which are not permitted
func TestRandomPieces(t *testing.T) {
	var r random
	accepted := 0
	for range 5000 {
		x := files(nil)
		for range r.below(6) {
			size := r.below(1 << r.below(10))
			x.ids, x.versions, x.data = append(x.ids, 1+r.below(1<<r.below(50))), append(x.versions, 1+r.below(1<<r.below(50))), append(x.data, mixed(size))
		}
		for range r.below(10) {
			file := r.below(len(x.data) + 1)
			if file == len(x.data) && r.below(4) > 0 {
				continue
			}
			p := piece(file, 0, 0)
			if file < len(x.data) {
				p.Offset = r.below(len(x.data[file]) + 1)
				p.Length = r.below(len(x.data[file]) - p.Offset + 1)
			}
			if r.below(20) == 0 {
				p.Length += r.below(3) - 1
			}
			x.l = append(x.l, p)
		}
		if entries(t, x).e == api.OK {
			accepted++
		}
	}
	if accepted < 2000 || accepted > 4500 {
		t.Errorf("%d were accepted", accepted)
	}
}
