package packer_test

import (
	"testing"

	"tapearchive/api"
	"tapearchive/packer"
)

// P16.1: the example, which is also example 3 of the document
func TestExampleFill(t *testing.T) {
	want := [][]packer.Piece{{piece(0, 0, 64)}, {piece(0, 64, 36), piece(1, 0, 28)}, {piece(1, 28, 2), piece(2, 0, 20)}}
	if l, e := packer.Fill([]int{100, 30, 20}, 64); e != api.OK || !equal(l, want) {
		t.Errorf("%v, error %d", l, e)
	}
}

// P16.2: the example
func TestExampleFirstFit(t *testing.T) {
	if l, e := packer.FirstFit([]int{40, 50, 20}, 64); e != api.OK || !equal(l, [][]int{{0, 2}, {1}}) {
		t.Errorf("%v, error %d", l, e)
	}
}

// P16.3: the example
func TestExampleDecreasing(t *testing.T) {
	sizes := []int{20, 40, 44, 24}
	if l, e := packer.Decreasing(sizes, 64); e != api.OK || !equal(l, [][]int{{2, 0}, {1, 3}}) {
		t.Errorf("%v, error %d", l, e)
	}
	if l, e := packer.FirstFit(sizes, 64); e != api.OK || len(l) != 3 {
		t.Errorf("FirstFit: %v, error %d", l, e)
	}
}

// P16.4: the example
func TestExampleLeast(t *testing.T) {
	if n := packer.Least([]int{40, 50, 20}, 64); n != 2 {
		t.Errorf("%d", n)
	}
}

// chapter, example 1
func TestExampleFilesWithoutBytes(t *testing.T) {
	want := [][]packer.Piece{{{File: 0}, {File: 1}, {File: 2}}}
	if l, e := packer.Fill([]int{0, 0, 0}, 64); e != api.OK || !equal(l, want) {
		t.Errorf("%v, error %d", l, e)
	}
}

// chapter, example 2
func TestExampleTooGreat(t *testing.T) {
	if l, e := packer.FirstFit([]int{65}, 64); e != api.ErrFull || len(l) != 0 {
		t.Errorf("%v, error %d", l, e)
	}
}
