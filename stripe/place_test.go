package stripe_test

import (
	"math"
	"slices"
	"strconv"
	"strings"
	"testing"

	"tapearchive/api"
)

// chooses checks that Place returns these barcodes, which are separated by commas.
func chooses(t *testing.T, what string, x volumes, want string) {
	t.Helper()
	if got := place(t, what, x); got.e != api.OK || strings.Join(got.barcodes, ",") != want {
		t.Errorf("%s: %s, want %s", what, short(got), want)
	}
}

// refuses checks that Place returns an error, and no barcodes with it.
func refuses(t *testing.T, what string, x volumes, want api.Errno) {
	t.Helper()
	if got := place(t, what, x); got.e != want || len(got.barcodes) != 0 {
		t.Errorf("%s: %s, want the error %d", what, short(got), want)
	}
}

// with returns the arguments with other numbers of volumes and blocks that are needed.
func (x volumes) with(n, need int) volumes {
	x.n, x.need = n, need
	return x
}

// P17.4: every n
func TestNumbersOfVolumes(t *testing.T) {
	x := opens("ABCDE", 5, 9, 7, 9, 1)
	for _, n := range ints() {
		switch {
		case n < 1:
			refuses(t, "n", x.with(n, 0), api.ErrInvalid)
		case n <= 5:
			chooses(t, "n", x.with(n, 0), "B,D,C,A,E"[:2*n-1])
		default:
			refuses(t, "n", x.with(n, 0), api.ErrFull)
		}
	}
}

// P17.4: every number of blocks that are needed
func TestNeed(t *testing.T) {
	x := opens("ABCDE", 5, 9, 7, 9, 0)
	for _, need := range append(ints(), 5, 6, 7, 8, 9, 10) {
		fitting := 0
		for _, free := range x.free {
			if free >= need {
				fitting++
			}
		}
		for n := 1; n <= 6; n++ {
			switch {
			case need < 0:
				refuses(t, "need", x.with(n, need), api.ErrInvalid)
			case n <= fitting:
				chooses(t, "need", x.with(n, need), "B,D,C,A,E"[:2*n-1])
			default:
				refuses(t, "need", x.with(n, need), api.ErrFull)
			}
		}
	}
}

// P17.4: free blocks of one less than, as much as and one more than need, and others
func TestFreeBlocks(t *testing.T) {
	for _, need := range []int{0, 1, 8, 4096, 1 << 50, math.MaxInt - 1} {
		for _, free := range append(ints(), need-1, need, need+1) {
			if x := opens("A", free).with(1, need); free >= need {
				chooses(t, "alone", x, "A")
			} else {
				refuses(t, "alone", x, api.ErrFull)
			}
			if x := opens("ABC", need, free, need).with(3, need); free < need {
				refuses(t, "among others", x, api.ErrFull)
				chooses(t, "among others", x.with(2, need), "A,C")
			} else if free == need {
				chooses(t, "among others", x, "A,B,C")
			} else {
				chooses(t, "among others", x, "B,A,C")
			}
		}
	}
	chooses(t, "the greatest numbers", opens("ABC", math.MaxInt-1, math.MaxInt, math.MinInt).with(2, math.MaxInt-1), "B,A")
	refuses(t, "the greatest numbers", opens("ABC", math.MaxInt-1, math.MaxInt, math.MinInt).with(2, math.MaxInt), api.ErrFull)
	// Differences of these exceed the range of int.
	refuses(t, "the least numbers", opens("ABC", math.MinInt, math.MaxInt, -2).with(2, 0), api.ErrFull)
}

// P17.4: lists without volumes, and free with fewer and with more elements
func TestNumbersOfFree(t *testing.T) {
	for volumesOf := range 4 {
		for k := range 6 {
			x := opens("ABC"[:volumesOf], slices.Repeat([]int{4}, k)...)
			for _, n := range []int{-1, 0, 1, 2, 3, 4} {
				for _, need := range []int{-1, 0, 4, 5} {
					switch {
					case k != volumesOf || n < 1 || need < 0:
						refuses(t, "invalid", x.with(n, need), api.ErrInvalid)
					case n > volumesOf || need > 4:
						refuses(t, "too few", x.with(n, need), api.ErrFull)
					default:
						chooses(t, "as many", x.with(n, need), "A,B,C"[:2*n-1])
					}
				}
			}
		}
	}
}

// P17.4: every state
func TestStates(t *testing.T) {
	for _, state := range append(ints(), api.VolumeScratch, api.VolumeOpen, api.VolumeFull, api.VolumeLost, 5) {
		for at := range 3 {
			x := opens("ABC", 6, 6, 6)
			x.l[at].State = state
			if state == api.VolumeOpen {
				chooses(t, "a state", x.with(3, 6), "A,B,C")
				continue
			}
			refuses(t, "a state", x.with(3, 6), api.ErrFull)
			chooses(t, "a state", x.with(2, 6), []string{"B,C", "A,C", "A,B"}[at])
		}
	}
}

// P17.4: other pools, at each place; any string may be the pool.
func TestPools(t *testing.T) {
	for _, pool := range []string{"", "p", "P", "pp", "q", "p ", "\x00", "\xff", strings.Repeat("p", 1000)} {
		for at := range 3 {
			x := opens("ABC", 6, 6, 6)
			x.l[at].Pool = pool
			if pool == "p" {
				chooses(t, "a pool", x.with(3, 6), "A,B,C")
				continue
			}
			refuses(t, "a pool", x.with(3, 6), api.ErrFull)
			chooses(t, "a pool", x.with(2, 6), []string{"B,C", "A,C", "A,B"}[at])
			x.pool = pool
			chooses(t, "this pool", x, "ABC"[at:at+1])
			refuses(t, "this pool", x.with(2, 6), api.ErrFull)
		}
	}
}

// P17.4: the epoch and the used blocks of a volume play no part.
func TestOtherFields(t *testing.T) {
	for _, number := range ints() {
		x := opens("ABC", 6, 7, 6)
		x.l[0].Epoch, x.l[1].Used, x.l[2].Used = number, number, -number
		chooses(t, "other fields", x.with(3, 6), "B,A,C")
	}
}

// P17.4: volumes that are in order, in the opposite order and mixed: all orders of a few
func TestOrdersOfVolumes(t *testing.T) {
	for _, free := range [][]int{{1, 2, 3, 4}, {4, 3, 2, 1}, {2, 2, 2, 2}, {1, 2, 2, 3}, {2, 1, 1, 2}, {0, 0, 5, 0}} {
		var want string
		for number := range 4 * 4 * 4 * 4 {
			var x volumes
			for i := range 4 {
				at := number >> (2 * i) & 3
				x.l, x.free = append(x.l, open("ABCD"[at:at+1])), append(x.free, free[at])
			}
			x.pool = "p"
			got := place(t, "any order", x.with(4, 0))
			if !slices.ContainsFunc(x.l, func(v api.Volume) bool {
				return 1 < count([]bool{v == x.l[0], v == x.l[1], v == x.l[2], v == x.l[3]})
			}) {
				// All of them are in the list: their order in it plays no part.
				if s := strings.Join(got.barcodes, ","); want == "" {
					want = s
				} else if s != want {
					t.Errorf("free %v: %s and %s", free, s, want)
				}
			}
		}
		if want == "" {
			t.Error("no order of all four")
		}
	}
}

// P17.4: barcodes are compared by their bytes, also those that are no barcodes.
func TestOrderOfBarcodes(t *testing.T) {
	x := volumes{pool: "p"}
	sorted := []string{"", "\x00", " ", "0", "9", "A", "A1", "A10", "A2", "AA", "B", "Z", "a", "b", "\x7f", "\x80", "\xff", "\xff\xff"}
	for i := range sorted {
		x.l, x.free = append(x.l, open(sorted[(i*7+5)%len(sorted)])), append(x.free, 3)
	}
	chooses(t, "bytes", x.with(len(sorted), 0), strings.Join(sorted, ","))
	chooses(t, "the first ones", x.with(4, 3), strings.Join(sorted[:4], ","))
}

// P17.4: equal barcodes with equal and with different free blocks
func TestEqualBarcodes(t *testing.T) {
	chooses(t, "equal free blocks", opens("BAAB", 4, 4, 4, 4).with(3, 0), "A,A,B")
	chooses(t, "equal free blocks", opens("AAA", 4, 4, 4).with(3, 0), "A,A,A")
	chooses(t, "different free blocks", opens("ABAB", 4, 5, 6, 7).with(4, 0), "B,A,B,A")
	chooses(t, "different free blocks", opens("AAB", 1, 9, 5).with(2, 0), "A,B")
	chooses(t, "one of them has too few", opens("AAB", 1, 9, 5).with(2, 2), "A,B")
	refuses(t, "one of them has too few", opens("AAB", 1, 9, 5).with(3, 2), api.ErrFull)
	x := opens("AAB", 9, 9, 5)
	x.l[0].State = api.VolumeFull
	chooses(t, "one of them is full", x.with(2, 0), "A,B")
}

// P17.4: all numbers of free blocks of a few volumes
func TestAllFreeBlocks(t *testing.T) {
	for number := range 4 * 4 * 4 * 4 {
		x := opens("CADB", number&3, number>>2&3, number>>4&3, number>>6&3)
		for n := 1; n <= 5; n++ {
			for need := range 5 {
				place(t, "all numbers", x.with(n, need))
			}
		}
	}
}

// P17.4: random volumes, few and many
func TestRandomVolumes(t *testing.T) {
	var r random
	found := map[api.Errno]int{}
	for i := range 2000 {
		x := randomVolumes(&r, 1+r.below(1<<r.below(7)))
		if i < 3 {
			x = randomVolumes(&r, 1000)
		}
		found[place(t, "random volumes", x).e]++
	}
	if found[api.OK] < 500 || found[api.ErrFull] < 100 {
		t.Errorf("errors: %v", found)
	}
}

// randomVolumes returns arguments with at most k volumes.
func randomVolumes(r *random, k int) volumes {
	x := volumes{pool: "p", need: r.below(4)}
	most := 1 + r.below(20)
	for range r.below(k + 1) {
		v := open("V" + strconv.Itoa(r.below(2*k)))
		v.Epoch, v.Used = r.below(4), r.below(99)
		if r.below(8) == 0 {
			v.Pool = "q"
		}
		if r.below(8) == 0 {
			v.State = r.below(4)
		}
		x.l, x.free = append(x.l, v), append(x.free, r.below(most))
	}
	x.n = 1 + r.below(len(x.l)/2+1)
	return x
}
