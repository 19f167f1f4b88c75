package label_test

import (
	"testing"

	"tapearchive/api"
	"tapearchive/label"
)

// checkBlocks checks Blocks of a label.
func checkBlocks(t *testing.T, l api.Label) {
	t.Helper()
	got, e := label.Blocks(l)
	var want []api.Block
	wantE := api.ErrInvalid
	if validOf(l) {
		want, wantE = blocksOf(l), api.OK
	}
	if !equal(got, want) || e != wantE {
		t.Errorf("Blocks of %+v: %s, error %d, want %s, error %d", l, name(got), e, name(want), wantE)
	}
}

// P14.3: valid labels of all sizes, also with frames that fill their blocks, lack a byte for this, and have one more
func TestBlocks(t *testing.T) {
	sizes := map[int]int{}
	for _, l := range labels() {
		checkBlocks(t, l)
		n := 10 + len(bodyOf(l))
		sizes[n]++
		if got, _ := label.Blocks(l); len(got) != (n+63)/64+1 || !got[len(got)-1].Mark {
			t.Errorf("the frame of %+v has %d bytes, its blocks are %s", l, n, name(got))
		}
	}
	for _, n := range []int{23, 24, 62, 63, 64, 65, 66, 81} {
		if sizes[n] == 0 {
			t.Errorf("no label has a frame of %d bytes", n)
		}
	}
}

// P14.3: labels that are not valid by one condition alone, and by several ones
func TestBlocksOfInvalidLabels(t *testing.T) {
	list := append(invalid(), api.Label{}, api.Label{Epoch: -1, Created: -1}, api.Label{Barcode: "a", Pool: "A"})
	for _, l := range list {
		if got, e := label.Blocks(l); len(got) != 0 || e != api.ErrInvalid {
			t.Errorf("%+v: %s, error %d", l, name(got), e)
		}
		checkBlocks(t, l)
	}
}

// P14.3: random labels, most of them valid
func TestBlocksOfRandomLabels(t *testing.T) {
	var r random
	for range 5000 {
		checkBlocks(t, randomLabel(&r, 20))
	}
}

// randomText returns up to 25 of these bytes, and seldom another byte among them.
func randomText(r *random, permitted string, seldom int) string {
	b := make([]byte, 1+r.below(24))
	for i := range b {
		b[i] = permitted[r.below(len(permitted))]
	}
	if r.below(seldom) == 0 {
		b[r.below(len(b))] = byte(r.below(256))
	}
	if r.below(seldom) == 0 {
		b = append(b, make([]byte, 25-len(b))...)
	}
	return string(b)
}

// randomNumber returns a number of up to so many bits, and seldom any int.
func randomNumber(r *random, bits, seldom int) int {
	if r.below(seldom) == 0 {
		return r.below(1<<63-1)<<1 ^ -r.below(2)
	}
	return r.below(1 << r.below(bits+1))
}

// randomLabel returns a label, of whose fields each one is seldom not valid.
func randomLabel(r *random, seldom int) api.Label {
	return api.Label{
		Barcode: randomText(r, capitals+digits, seldom),
		Pool:    "p" + randomText(r, letters+digits+"-", seldom)[1:],
		Epoch:   randomNumber(r, 50, seldom),
		Created: randomNumber(r, 40, seldom),
	}
}
