package stripe_test

import (
	"slices"
	"testing"

	"tapearchive/api"
	"tapearchive/container"
	"tapearchive/erasure"
	"tapearchive/stripe"
)

// whole builds a set and returns arguments of Recover for it, all members of which are there.
func whole(t *testing.T, x parts) losses {
	t.Helper()
	_, payloads, s, e := stripe.Build(x.set, x.headers, x.payloads, x.next)
	if e != api.OK {
		t.Fatalf("Build of %s: error %d", short(x), e)
	}
	return losses{s, payloads, all(len(payloads)), sizesOf(payloads)}
}

// checkRecovery checks P17.6 and P17.7 for those members that a choice says: the others have other bytes.
func checkRecovery(t *testing.T, x losses, have []bool) {
	t.Helper()
	there := clonedPayloads(x.payloads)
	for i, is := range have {
		if !is {
			there[i] = []byte("other bytes")
		}
	}
	got, e := stripe.Recover(x.s, there, have, x.sizes)
	margin := stripe.Margin(x.s, have)
	switch enough := count(have) >= x.s.Data; {
	case enough && (e != api.OK || !samePayloads(got, x.payloads) || margin != count(have)-x.s.Data):
		t.Errorf("%+v with %v: error %d, margin %d, %s", x.s, have, e, margin, short(got))
	case !enough && (e != api.ErrLost || len(got) != 0 || margin != -1):
		t.Errorf("%+v with %v: error %d, margin %d, %s", x.s, have, e, margin, short(got))
	}
}

// P17.6, P17.7: every choice of the members of sets of all numbers of data and parity members, up to 10 members
func TestRecoveryFromEveryChoice(t *testing.T) {
	plans(func(data, parity int) {
		if data+parity > 10 {
			return
		}
		for _, length := range []int{0, 1, 5} {
			sizes := make([]int, data)
			for i := range sizes {
				sizes[i] = (i*3 + 1) % (length + 1)
			}
			x := whole(t, sample(parity, sizes...))
			for _, have := range choices(data + parity) {
				checkRecovery(t, x, have)
			}
		}
	})
}

// P17.6: every choice of Data of the members of the sets with MaxShards members that have not too many of them
func TestRecoveryOfGreatSets(t *testing.T) {
	for _, data := range []int{1, 2, 3, 4, 12, 13, 14, 15, 16} {
		sizes := make([]int, data)
		for i := range sizes {
			sizes[i] = i * 5 % 7
		}
		x := whole(t, sample(16-data, sizes...))
		for _, have := range choices(16) {
			if n := count(have); n == data || n == data-1 && data < 4 {
				checkRecovery(t, x, have)
			}
		}
	}
}

// P17.6, P17.7: many sizes, and some choices of members of all sets
func TestRecoveryOfManySizes(t *testing.T) {
	var r random
	for _, sizes := range manySizes() {
		for parity := range 17 - len(sizes) {
			x := whole(t, sample(parity, sizes...))
			n := len(x.sizes)
			for range 5 {
				checkRecovery(t, x, r.choice(n, len(sizes)))
				checkRecovery(t, x, r.choice(n, r.below(n+1)))
			}
		}
	}
}

// P17.6: great payloads, up to the greatest size that Recover takes
func TestRecoveryOfGreatPayloads(t *testing.T) {
	for _, sizes := range [][]int{{65536}, {65536, 0}, {1, 65536, 65535}, {10000, 65536, 30000, 40000}} {
		x := whole(t, sample(2, sizes...))
		n := len(x.sizes)
		for i := range n {
			for j := range i {
				checkRecovery(t, x, without(all(n), i, j))
			}
		}
	}
	// Payloads of containers may have more bytes than a payload of Recover.
	x := whole(t, sample(1, 65537, 3))
	if got, e := stripe.Recover(x.s, x.payloads, x.have, x.sizes); e != api.ErrInvalid || len(got) != 0 {
		t.Errorf("error %d", e)
	}
}

// P17.7: if a member is lost, the margin decreases by 1.
func TestMarginDecreases(t *testing.T) {
	plans(func(data, parity int) {
		s := row(data, parity)
		n := data + parity
		for first := range n {
			have := all(n)
			for lost := range n {
				if got, want := stripe.Margin(s, have), max(parity-lost, -1); got != want {
					t.Errorf("%+v with %v: %d, want %d", s, have, got, want)
				}
				have[(first+lost)%n] = false
			}
		}
	})
}

// P17.2: the payloads of the parity members are those of erasure.Parity for the padded payloads; the headers and payloads make containers.
func TestSetsMakeContainers(t *testing.T) {
	for _, sizes := range manySizes() {
		for parity := range 17 - len(sizes) {
			x := sample(parity, sizes...)
			headers, payloads, s, _ := stripe.Build(x.set, x.headers, x.payloads, x.next)
			var shards [][]byte
			for _, payload := range payloads {
				shards = append(shards, paddedOf(payload, slices.Max(sizes)))
			}
			if !erasure.Check(shards, parity) {
				t.Errorf("%v with %d parity members: other parity", sizes, parity)
			}
			for i := len(sizes); i < len(headers); i++ {
				blocks, h, e := container.Build(headers[i], payloads[i])
				if e != api.OK || len(blocks) != container.Blocks(headers[i]) || h.ID != s.Members[i] {
					t.Errorf("%v with %d parity members: container %d: error %d", sizes, parity, i, e)
				}
			}
		}
	}
}

// P17.2: the parity is that of the payloads, whatever their containers are.
func TestParityDependsOnPayloads(t *testing.T) {
	x := sample(2, 4, 7, 1)
	y := x.after(func(x *parts) {
		x.set.ID, x.next = 3, 1<<50-1
		for i := range x.headers {
			x.headers[i].ID, x.headers[i].Version, x.headers[i].Commit = 7*i+1, 1, i
		}
	})
	if a, b := whole(t, x), whole(t, y); !samePayloads(a.payloads, b.payloads) {
		t.Errorf("%v and %v", a.payloads, b.payloads)
	}
	for at := range 3 {
		for offset := range x.payloads[at] {
			y := x.after(func(x *parts) { x.payloads[at][offset] ^= 1 })
			a, b := whole(t, x), whole(t, y)
			for i := 3; i < 5; i++ {
				for k := range a.payloads[i] {
					if (a.payloads[i][k] != b.payloads[i][k]) != (k == offset) {
						t.Errorf("byte %d of %d changed: parity %v and %v", offset, at, a.payloads[i], b.payloads[i])
					}
				}
			}
		}
	}
}

// P17.8: no volume that has not been chosen, though it could, has more free blocks than one that has.
func TestChoice(t *testing.T) {
	var r random
	for range 3000 {
		x := randomVolumes(&r, 1+r.below(70))
		barcodes, e := stripe.Place(x.l, x.free, x.pool, x.n, x.need)
		if e != api.OK {
			continue
		}
		if len(barcodes) != x.n {
			t.Fatalf("%s: %v", short(x), barcodes)
		}
		// The chosen ones of several volumes with one barcode are those with the most free blocks.
		left := map[string][]int{}
		for i, v := range x.l {
			if x.couldBeChosen(i) {
				left[v.Barcode] = append(left[v.Barcode], x.free[i])
			}
		}
		for _, list := range left {
			slices.Sort(list)
		}
		least := 1 << 60
		for i, barcode := range barcodes {
			list := left[barcode]
			if len(list) == 0 {
				t.Fatalf("%s: %v: %s could not be chosen", short(x), barcodes, barcode)
			}
			free := list[len(list)-1]
			left[barcode] = list[:len(list)-1]
			if free > least || i > 0 && free == least && barcode < barcodes[i-1] {
				t.Errorf("%s: %v: %s is behind its place", short(x), barcodes, barcode)
			}
			least = free
		}
		for barcode, list := range left {
			if len(list) > 0 && list[len(list)-1] > least {
				t.Errorf("%s: %v, but %s has %d free blocks", short(x), barcodes, barcode, list[len(list)-1])
			}
		}
	}
}

// P17.8: one volume more is chosen behind the same ones.
func TestOneMore(t *testing.T) {
	var r random
	for range 500 {
		x := randomVolumes(&r, 30)
		var before []string
		for n := 1; n <= len(x.l); n++ {
			barcodes, e := stripe.Place(x.l, x.free, x.pool, n, x.need)
			if e != api.OK {
				break
			}
			if !slices.Equal(barcodes[:n-1], before) {
				t.Errorf("%s: %v and then %v", short(x), before, barcodes)
			}
			before = barcodes
		}
	}
}
