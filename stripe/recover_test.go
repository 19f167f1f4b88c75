package stripe_test

import (
	"math"
	"slices"
	"testing"

	"tapearchive/api"
)

// restores checks that Recover returns these payloads.
func restores(t *testing.T, what string, x losses, want [][]byte) {
	t.Helper()
	if got := restore(t, what, x); got.e != api.OK || !samePayloads(got.payloads, want) {
		t.Errorf("%s: %s, want %s", what, short(got), short(want))
	}
}

// denies checks that Recover returns an error, and no payloads with it.
func denies(t *testing.T, what string, x losses, want api.Errno) {
	t.Helper()
	if got := restore(t, what, x); got.e != want || len(got.payloads) != 0 {
		t.Errorf("%s: %s, want the error %d", what, short(got), want)
	}
}

// after returns arguments after a change.
func (x losses) after(change func(x *losses)) losses {
	x = x.cloned()
	change(&x)
	return x
}

// smallSizes are sizes of the payloads of n data members: equal ones, different ones, and such that some have no bytes.
func smallSizes(n int) [][]int {
	up, some := make([]int, n), make([]int, n)
	for i := range n {
		up[i], some[i] = 2*i+1, 6*(i%2)
	}
	down := slices.Clone(up)
	slices.Reverse(down)
	return [][]int{slices.Repeat([]int{5}, n), make([]int, n), up, down, some}
}

// P17.3: every choice of the members that are there, in small sets
func TestRecoverOfEveryChoice(t *testing.T) {
	for _, plan := range smallPlans() {
		for _, sizes := range smallSizes(plan[0]) {
			whole := lossesOf(plan[1], sizes...)
			for _, have := range choices(plan[0] + plan[1]) {
				if x := whole.only(have); count(have) >= plan[0] {
					restores(t, "enough", x, whole.payloads)
				} else {
					denies(t, "too few", x, api.ErrLost)
				}
			}
		}
	}
}

// P17.3: all numbers of data and parity members, with one less than Data, as many, one more and all
func TestRecoverOfAllPlans(t *testing.T) {
	var r random
	plans(func(data, parity int) {
		sizes := make([]int, data)
		for i := range sizes {
			sizes[i] = r.below(40)
		}
		whole := lossesOf(parity, sizes...)
		n := data + parity
		for range 4 {
			for _, there := range []int{0, data - 1, data, data + 1, n} {
				if there > n {
					continue
				}
				if x := whole.only(r.choice(n, there)); there >= data {
					restores(t, "enough", x, whole.payloads)
				} else {
					denies(t, "too few", x, api.ErrLost)
				}
			}
		}
	})
}

// P17.3: payloads that are not there may have bytes, as many as they like.
func TestPayloadsThatAreNotThere(t *testing.T) {
	whole := lossesOf(2, 3, 1, 3)
	for _, have := range choices(5) {
		for _, b := range [][]byte{{}, {1}, {0, 0, 0}, {9, 9, 9}, mixed(4, 1), make([]byte, 70000)} {
			x := whole.after(func(x *losses) {
				x.have = have
				for i, is := range have {
					if !is {
						x.payloads[i] = b
					}
				}
			})
			if count(have) >= 3 {
				restores(t, "other bytes", x, whole.payloads)
			} else {
				denies(t, "other bytes", x, api.ErrLost)
			}
		}
	}
}

// P17.3: rows that are not valid by one condition alone; the lists have as many elements as there are members.
func TestRecoverOfInvalidRows(t *testing.T) {
	for _, c := range invalidRows() {
		n := len(c.s.Members)
		for _, payload := range [][]byte{nil, mixed(3, 1)} {
			x := losses{c.s, slices.Repeat([][]byte{payload}, n), all(n), slices.Repeat([]int{len(payload)}, n)}
			denies(t, c.name, x, api.ErrInvalid)
			x.have = make([]bool, n)
			denies(t, c.name, x, api.ErrInvalid)
		}
	}
	denies(t, "nothing", losses{}, api.ErrInvalid)
}

// P17.3: payloads, have and sizes with fewer and with more elements than there are members
func TestNumbersOfElements(t *testing.T) {
	for _, whole := range []losses{lossesOf(0, 3), lossesOf(1, 3), lossesOf(2, 3, 3), lossesOf(0, 3, 3, 3)} {
		n := len(whole.s.Members)
		for _, k := range []int{0, 1, 2, 3, 4, 5, 15, 16, 17, 18, 1000} {
			lists := []losses{
				whole.after(func(x *losses) { x.payloads = slices.Repeat([][]byte{x.payloads[0]}, k) }),
				whole.after(func(x *losses) { x.have = all(k) }),
				whole.after(func(x *losses) { x.sizes = slices.Repeat([]int{3}, k) }),
			}
			for _, x := range lists {
				if k == n {
					if got := restore(t, "as many", x); got.e != api.OK {
						t.Errorf("%+v: %s", x, short(got))
					}
				} else {
					denies(t, "more or fewer", x, api.ErrInvalid)
				}
			}
			// All three of them, and two of them
			x := losses{whole.s, slices.Repeat([][]byte{{1, 2, 3}}, k), all(k), slices.Repeat([]int{3}, k)}
			for i := range 4 {
				y := x.cloned()
				switch i {
				case 0:
					y.payloads = whole.payloads
				case 1:
					y.have = whole.have
				case 2:
					y.sizes = whole.sizes
				}
				if k != n {
					denies(t, "several of them", y, api.ErrInvalid)
				}
			}
		}
	}
}

// P17.3: each size of each member, whether it is there or not
func TestSizes(t *testing.T) {
	whole := lossesOf(2, 3, 3, 3)
	for _, list := range [][]int{ints(), {4, 5, 65535, 65536, 65537}} {
		for _, size := range list {
			for at := range 5 {
				for _, have := range choices(5) {
					x := whole.only(have).after(func(x *losses) { x.sizes[at] = size })
					// A smaller size of a data member is permitted if it is not there.
					switch {
					case size == 3 || size >= 0 && size < 3 && at < 3 && !have[at]:
						if got := restore(t, "a size", x); got.e == api.ErrInvalid {
							t.Errorf("%+v: %s", x, short(got))
						}
					default:
						denies(t, "a bad size", x, api.ErrInvalid)
					}
				}
			}
		}
	}
}

// P17.3: the least and the greatest size, and those beyond, of all members together
func TestSizesOfAllMembers(t *testing.T) {
	for _, size := range ints() {
		x := losses{row(2, 1), make([][]byte, 3), make([]bool, 3), []int{size, size, size}}
		want := api.ErrInvalid
		if size >= 0 && size <= 65536 {
			want = api.ErrLost
		}
		denies(t, "all sizes", x, want)
	}
	for _, size := range []int{65535, 65536} {
		whole := lossesOf(2, size, size-1, 0)
		for _, places := range [][]int{nil, {0}, {1, 2}, {0, 4}, {0, 1}, {3, 4}} {
			restores(t, "great payloads", whole.lost(places...), whole.payloads)
		}
		denies(t, "great payloads", whole.lost(0, 1, 2), api.ErrLost)
	}
	denies(t, "too great payloads", lossesOf(2, 65537, 1), api.ErrInvalid)
	denies(t, "too great payloads", lossesOf(0, 1, 65537), api.ErrInvalid)
}

// P17.3: the size of a parity member must be the greatest one of the data members.
func TestSizesOfParity(t *testing.T) {
	for _, sizes := range [][]int{{4}, {4, 2}, {2, 4}, {4, 4}, {0, 4, 0}, {0}, {0, 0}} {
		whole := lossesOf(2, sizes...)
		n, length := len(whole.sizes), slices.Max(sizes)
		for at := len(sizes); at < n; at++ {
			for size := range 8 {
				for _, is := range []bool{true, false} {
					x := whole.after(func(x *losses) { x.sizes[at], x.payloads[at], x.have[at] = size, mixed(size, 1), is })
					if size == length {
						want := clonedPayloads(x.payloads)
						if !is {
							want = whole.payloads
						}
						restores(t, "the length", x, want)
					} else {
						denies(t, "not the length", x, api.ErrInvalid)
					}
				}
			}
		}
	}
}

// P17.3: the length is that of the data members, also if those that are there are shorter.
func TestLengthOfLostMember(t *testing.T) {
	whole := lossesOf(2, 1, 9, 3)
	restores(t, "without the longest", whole.lost(1), whole.payloads)
	restores(t, "without the longest", whole.lost(1, 3), whole.payloads)
	restores(t, "without the longest", whole.lost(1, 2), whole.payloads)
	x := whole.lost(1)
	x.sizes[1] = 8
	denies(t, "the longest is one shorter", x, api.ErrInvalid)
	x.sizes[3], x.sizes[4] = 8, 8
	denies(t, "so is the parity, but not its payload", x, api.ErrInvalid)
	x.payloads[3], x.payloads[4] = x.payloads[3][:8], x.payloads[4][:8]
	restores(t, "so is its payload", x, [][]byte{whole.payloads[0], whole.payloads[1][:8], whole.payloads[2], x.payloads[3], x.payloads[4]})
}

// P17.3: payloads that are there and do not have their size
func TestPayloadsOfOtherSizes(t *testing.T) {
	whole := lossesOf(2, 3, 4, 2)
	for at := range 5 {
		for size := range 8 {
			for _, b := range [][]byte{mixed(size, 2), make([]byte, size)} {
				x := whole.after(func(x *losses) { x.payloads[at] = b })
				if size != whole.sizes[at] {
					denies(t, "another size", x, api.ErrInvalid)
					x.have = without(all(5), 0, 1, 2, 3, 4)
					denies(t, "nothing is there", x, api.ErrLost)
					x.have[at] = true
					denies(t, "nothing else is there", x, api.ErrInvalid)
				} else {
					restores(t, "the same size", x, clonedPayloads(x.payloads))
				}
			}
		}
	}
}

// P17.3: bytes of parity that are changed such that a data shard is not zero behind its size, and such that it is
func TestChangedParity(t *testing.T) {
	whole := lossesOf(1, 3, 1, 2)
	for at := range 3 {
		for offset := range 3 {
			for _, by := range []byte{1, 2, 128, 255} {
				x := whole.lost(at)
				x.payloads[3][offset] ^= by
				if offset >= whole.sizes[at] {
					denies(t, "not zero", x, api.ErrCorrupt)
					continue
				}
				want := clonedPayloads(whole.payloads)
				want[3][offset] ^= by
				// The byte is that whose product with the factor is the difference of the parity.
				want[at][offset] ^= products[inverseOf(factor(3, 0, at))][by]
				restores(t, "zero", x, want)
			}
		}
	}
}

// P17.3: bytes of data that are changed such that another data shard is not zero behind its size, and such that it is
func TestChangedData(t *testing.T) {
	whole := lossesOf(2, 4, 2, 3, 0)
	for changed := range 3 {
		for at := range 4 {
			for offset := range whole.sizes[changed] {
				if at == changed {
					continue
				}
				x := whole.lost(at)
				x.payloads[changed][offset] ^= 17
				if offset >= whole.sizes[at] {
					denies(t, "not zero", x, api.ErrCorrupt)
				} else if got := restore(t, "zero", x); got.e != api.OK || slices.Equal(got.payloads[at], whole.payloads[at]) {
					t.Errorf("%d of %d changed: %s", offset, changed, short(got))
				}
			}
		}
	}
}

// P17.3: two data members are lost, of which the first, the second, both or none are not zero behind their sizes.
func TestTwoLostMembers(t *testing.T) {
	for _, sizes := range [][]int{{5, 1, 3}, {1, 5, 3}, {3, 5, 1}, {2, 2, 5}, {5, 5, 5}, {5, 0, 0}} {
		whole := lossesOf(2, sizes...)
		for first := range 3 {
			for second := range first {
				for offset := range 5 {
					for parity := 3; parity < 5; parity++ {
						x := whole.lost(first, second)
						x.payloads[parity][offset] ^= 3
						got := restore(t, "changed parity", x)
						if want := offset >= min(sizes[first], sizes[second]); (got.e == api.ErrCorrupt) != want {
							t.Errorf("%v without %d and %d, byte %d of %d changed: error %d", sizes, first, second, offset, parity, got.e)
						}
					}
				}
			}
		}
	}
}

// P17.3: the members that are there are returned as they are, whether they fit to the others or not; those that erasure.Reconstruct does not need play no part.
func TestMembersThatDoNotFit(t *testing.T) {
	whole := lossesOf(3, 3, 1)
	for _, lost := range [][]int{nil, {0}, {1}, {2}, {0, 2}, {1, 2}, {0, 3}, {1, 4}} {
		for at := 2; at < 5; at++ {
			x := whole.lost(lost...)
			if !x.have[at] || count(x.have[:at]) < 2 {
				continue
			}
			x.payloads[at] = []byte{200, 201, 202}
			want := clonedPayloads(whole.payloads)
			want[at] = x.payloads[at]
			restores(t, "a parity member that does not fit", x, want)
		}
	}
	x := whole.cloned()
	x.payloads[0][0] ^= 1
	restores(t, "a data member that does not fit", x, clonedPayloads(x.payloads))
	x.have[3] = false
	want := clonedPayloads(x.payloads)
	want[3] = parityOf([][]byte{x.payloads[0], paddedOf(x.payloads[1], 3)}, 3)[1]
	restores(t, "the lost parity member fits to the data", x, want)
}

// P17.3: smaller sizes of a member that is lost are not zero behind them, unless the bytes are zero.
func TestSmallerSizes(t *testing.T) {
	whole := lossesOf(1, 3, 5)
	for at := range 2 {
		for size := range 6 {
			x := whole.lost(at).after(func(x *losses) { x.sizes[at] = size })
			got := restore(t, "a smaller size", x)
			if want := at == 0 && size < 3; (got.e == api.ErrCorrupt) != want {
				t.Errorf("%d bytes of %d: error %d", size, at, got.e)
			}
		}
	}
	zeros := losses{whole.s, [][]byte{{0, 0, 0, 0, 0}, {1, 2, 3, 4, 5}, nil}, all(3), []int{5, 5, 5}}
	zeros.payloads[2] = parityOf(zeros.payloads[:2], 1)[0]
	for size := range 6 {
		x := zeros.lost(0).after(func(x *losses) { x.sizes[0] = size })
		want := clonedPayloads(zeros.payloads)
		want[0] = want[0][:size]
		restores(t, "zeros", x, want)
	}
}

// P17.3: random arguments, of which each part is seldom not permitted
func TestRecoverOfRandomParts(t *testing.T) {
	var r random
	list := ints()
	n := map[api.Errno]int{}
	for range 5000 {
		sizes := make([]int, 1+r.below(6))
		for i := range sizes {
			sizes[i] = r.below(1 << r.below(6))
		}
		x := lossesOf(r.below(5), sizes...)
		x.have = r.choice(len(x.have), r.below(len(x.have)+1))
		for range r.below(3) {
			at := r.below(len(x.sizes))
			switch r.below(9) {
			case 0:
				x.s.ID = list[r.below(len(list))]
			case 1:
				x.s.Members[at] = list[r.below(len(list))]
			case 2:
				x.sizes[at] = list[r.below(len(list))]
			case 3:
				x.sizes[at] -= 1
			case 4:
				x.payloads[at] = mixed(r.below(9), 3)
			default:
				// All bytes of one offset, of which some are behind the sizes of others
				offset := r.below(1 + len(x.payloads[len(x.payloads)-1]))
				for _, payload := range x.payloads {
					if offset < len(payload) {
						payload[offset] ^= byte(1 + r.below(255))
					}
				}
			}
		}
		n[restore(t, "random parts", x).e]++
	}
	for _, e := range []api.Errno{api.OK, api.ErrInvalid, api.ErrLost, api.ErrCorrupt} {
		if n[e] < 100 {
			t.Errorf("the error %d: %d times", e, n[e])
		}
	}
}

// R1: numbers of data and parity members whose sum exceeds the range of int
func TestRecoverOfGreatPlans(t *testing.T) {
	for _, plan := range [][2]int{{math.MaxInt, 1}, {math.MaxInt, math.MaxInt}, {1, math.MaxInt}, {math.MinInt, math.MinInt}, {math.MinInt, math.MinInt + 3}, {-1, 4}, {4, -1}, {0, 3}} {
		for _, list := range [][]int{nil, {1}, {1, 2, 3}} {
			k := len(list)
			x := losses{api.Set{ID: 1, Data: plan[0], Parity: plan[1], Members: list}, make([][]byte, k), all(k), make([]int, k)}
			denies(t, "a great plan", x, api.ErrInvalid)
		}
	}
}
