package stripe_test

import (
	"slices"
	"strings"
	"testing"

	"tapearchive/api"
	"tapearchive/field"
	"tapearchive/stripe"
)

// chapter returns the arguments of Build of example 1.
func chapter() parts {
	return parts{
		set:      api.Set{ID: 9, Data: 2, Parity: 1},
		headers:  []api.Header{header(3, 3), header(4, 1)},
		payloads: [][]byte{{1, 2, 3}, {5}},
		next:     10,
	}
}

// chapter, example 1
func TestExampleBuild(t *testing.T) {
	b := makes(t, "example 1", chapter())
	first := field.Add(field.Mul(142, 1), field.Mul(244, 5))
	if !slices.Equal(b.row.Members, []int{3, 4, 10}) || len(b.payloads[2]) != 3 || b.payloads[2][0] != first {
		t.Errorf("%s", b)
	}
	if !slices.Equal(b.payloads[2], []byte{first, field.Mul(142, 2), field.Mul(142, 3)}) {
		t.Errorf("the payload of 10: %v", b.payloads[2])
	}
}

// chapter, example 2
func TestExampleRecover(t *testing.T) {
	b := buildOf(chapter())
	x := losses{b.row, b.payloads, all(3), []int{3, 1, 3}}
	restores(t, "without 3", x.lost(0), [][]byte{{1, 2, 3}, {5}, b.payloads[2]})
	for i := range 3 {
		for j := range i {
			denies(t, "without two of them", x.lost(i, j), api.ErrLost)
		}
	}
}

// chapter, example 3
func TestExamplePlace(t *testing.T) {
	x := opens("ABC", 7, 9, 9)
	chooses(t, "two", x.with(2, 8), "B,C")
	refuses(t, "three", x.with(3, 8), api.ErrFull)
}

// DOC.md, example 2: data shards 1 2 and 3 4 with one parity shard
func TestExampleOfDocument(t *testing.T) {
	x := chapter()
	x.headers, x.payloads = []api.Header{header(3, 2), header(4, 2)}, [][]byte{{1, 2}, {3, 4}}
	b := makes(t, "two data shards", x)
	for i := range 3 {
		restores(t, "two of the three", losses{b.row, b.payloads, all(3), []int{2, 2, 2}}.lost(i), b.payloads)
	}
}

// DOC.md, example 5: three containers on three cartridges, any one of which may be lost
func TestExampleOfClass(t *testing.T) {
	b := makes(t, "example 5", chapter())
	got := place(t, "three cartridges", opens("DACB", 30, 20, 10, 20).with(3, 2))
	if strings.Join(got.barcodes, ",") != "D,A,B" {
		t.Errorf("%v", got.barcodes)
	}
	if m := margin(t, b.row, all(3)); m != b.row.Parity {
		t.Errorf("margin %d", m)
	}
	for i := range 3 {
		if m := stripe.Margin(b.row, without(all(3), i)); m != 0 {
			t.Errorf("without %d: margin %d", i, m)
		}
	}
}
