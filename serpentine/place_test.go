package serpentine_test

import (
	"math"
	"testing"

	"tapearchive/api"
	"tapearchive/serpentine"
)

// P9.2: the first and the last blocks of wraps, and the numbers beside them
func TestPlaces(t *testing.T) {
	two, three := timed(2, 10, [4]int{1, 5, 3, 2}), timed(3, 4, [4]int{})
	for _, c := range []struct {
		g     api.Geometry
		block int
		want  api.Place
		ok    bool
	}{
		{two, 0, api.Place{}, true},
		{two, 1, api.Place{Position: 1}, true},
		{two, 9, api.Place{Position: 9}, true},
		{two, 10, api.Place{Wrap: 1, Position: 9, Back: true}, true},
		{two, 11, api.Place{Wrap: 1, Position: 8, Back: true}, true},
		{two, 19, api.Place{Wrap: 1, Back: true}, true},
		{two, 20, api.Place{Wrap: 1, Position: -1, Back: true}, true},
		{two, -1, api.Place{}, false},
		{two, 21, api.Place{}, false},
		{three, 3, api.Place{Position: 3}, true},
		{three, 4, api.Place{Wrap: 1, Position: 3, Back: true}, true},
		{three, 7, api.Place{Wrap: 1, Back: true}, true},
		{three, 8, api.Place{Wrap: 2}, true},
		{three, 11, api.Place{Wrap: 2, Position: 3}, true},
		{three, 12, api.Place{Wrap: 2, Position: 4}, true},
		{three, 13, api.Place{}, false},
		{three, math.MinInt, api.Place{}, false},
		{three, math.MaxInt, api.Place{}, false},
		{timed(1, 1, [4]int{}), 0, api.Place{}, true},
		{timed(1, 1, [4]int{}), 1, api.Place{Position: 1}, true},
		{timed(1, 1, [4]int{}), 2, api.Place{}, false},
		{timed(2, 1, [4]int{}), 1, api.Place{Wrap: 1, Back: true}, true},
		{timed(2, 1, [4]int{}), 2, api.Place{Wrap: 1, Position: -1, Back: true}, true},
		{timed(32, 128, [4]int{}), 4095, api.Place{Wrap: 31, Back: true}, true},
		{timed(32, 128, [4]int{}), 4096, api.Place{Wrap: 31, Position: -1, Back: true}, true},
		{timed(32, 128, [4]int{}), 4097, api.Place{}, false},
		{timed(1, 4096, [4]int{}), 4096, api.Place{Position: 4096}, true},
	} {
		if p, ok := serpentine.Place(c.g, c.block); p != c.want || ok != c.ok {
			t.Errorf("Place(%+v, %d): %+v %t, want %+v %t", c.g, c.block, p, ok, c.want, c.ok)
		}
		number := 0
		if c.ok {
			number = c.block
		}
		if n, ok := serpentine.Block(c.g, c.want); c.ok && (n != number || !ok) {
			t.Errorf("Block(%+v, %+v): %d %t, want %d", c.g, c.want, n, ok, number)
		}
	}
}

// P9.2: places that no block has
func TestNoBlocks(t *testing.T) {
	two, three := timed(2, 10, [4]int{1, 5, 3, 2}), timed(3, 4, [4]int{})
	for _, c := range []struct {
		g api.Geometry
		p api.Place
	}{
		{two, api.Place{Position: 7, Back: true}}, {two, api.Place{Wrap: 1, Position: 7}}, {two, api.Place{Back: true}}, {two, api.Place{Wrap: 1}},
		{two, api.Place{Wrap: -1, Position: 7}}, {two, api.Place{Wrap: -1, Position: 7, Back: true}}, {two, api.Place{Wrap: 2, Position: 7}}, {two, api.Place{Wrap: 3, Position: 7, Back: true}},
		{two, api.Place{Position: -1}}, {two, api.Place{Position: 10}}, {two, api.Place{Position: 11}}, {two, api.Place{Position: -1, Back: true}},
		{two, api.Place{Wrap: 1, Position: 10, Back: true}}, {two, api.Place{Wrap: 1, Position: -2, Back: true}}, {two, api.Place{Wrap: 1, Position: -1}}, {two, api.Place{Wrap: 2}}, {two, api.Place{Wrap: 2, Position: -1}},
		{three, api.Place{Wrap: 1, Position: -1, Back: true}}, {three, api.Place{Wrap: 1, Position: 4, Back: true}}, {three, api.Place{Wrap: 2, Position: -1}}, {three, api.Place{Wrap: 2, Position: 5}}, {three, api.Place{Wrap: 2, Position: 4, Back: true}},
		{three, api.Place{Position: 4}}, {three, api.Place{Wrap: 3, Position: 3, Back: true}}, {three, api.Place{Wrap: 3, Position: 4, Back: true}},
		{two, api.Place{Wrap: math.MinInt}}, {two, api.Place{Wrap: math.MaxInt}}, {two, api.Place{Position: math.MinInt}}, {two, api.Place{Position: math.MaxInt}},
		{three, api.Place{Wrap: 1 << 62}}, {three, api.Place{Wrap: 1 << 62, Position: 2}}, {three, api.Place{Wrap: math.MinInt, Position: 3}}, {three, api.Place{Wrap: 1<<62 + 1, Position: 2, Back: true}}, {three, api.Place{Wrap: 1<<62 + 2, Position: 2}},
		{two, api.Place{Wrap: 1, Position: math.MinInt, Back: true}}, {two, api.Place{Wrap: 1, Position: math.MaxInt, Back: true}}, {two, api.Place{Wrap: 1, Position: math.MinInt + 9, Back: true}},
	} {
		if n, ok := serpentine.Block(c.g, c.p); n != 0 || ok {
			t.Errorf("Block(%+v, %+v): %d %t", c.g, c.p, n, ok)
		}
	}
}

// checkBlock checks Block of any place, whether a block of the tape has it or none.
func checkBlock(t *testing.T, tape tape, numbers map[api.Place]int, p api.Place) {
	t.Helper()
	want, ok := numbers[p]
	if n, found := serpentine.Block(tape.g, p); n != want || found != ok {
		t.Errorf("Block(%+v, %+v): %d %t, want %d %t", tape.g, p, n, found, want, ok)
	}
}

// numbersOf returns the numbers of the blocks by their places.
func numbersOf(tape tape) map[api.Place]int {
	numbers := map[api.Place]int{}
	for n, p := range tape.places {
		numbers[p] = n
	}
	return numbers
}

// P9.2, P9.7: all blocks, and all places near the tape, of small tapes
func TestAllPlaces(t *testing.T) {
	for _, tape := range smallTapes() {
		numbers := numbersOf(tape)
		for n := -3; n <= tape.capacity()+3; n++ {
			want := api.Place{}
			if tape.has(n) {
				want = tape.places[n]
			}
			p, ok := serpentine.Place(tape.g, n)
			if p != want || ok != tape.has(n) {
				t.Errorf("Place(%+v, %d): %+v %t, want %+v", tape.g, n, p, ok, want)
			}
		}
		for wrap := -3; wrap <= tape.g.Wraps+3; wrap++ {
			for position := -8; position <= tape.g.Length+8; position++ {
				checkBlock(t, tape, numbers, api.Place{Wrap: wrap, Position: position})
				checkBlock(t, tape, numbers, api.Place{Wrap: wrap, Position: position, Back: true})
			}
		}
	}
}

// P9.2, P9.7: all blocks of great tapes
func TestPlacesOfGreatTapes(t *testing.T) {
	for _, tape := range greatTapes() {
		for n, want := range tape.places {
			p, ok := serpentine.Place(tape.g, n)
			back, found := serpentine.Block(tape.g, p)
			if p != want || !ok || back != n || !found {
				t.Errorf("%+v: block %d has the place %+v %t, which has the block %d %t", tape.g, n, p, ok, back, found)
			}
		}
	}
}

// P9.2: the extreme ints as numbers, wraps and positions
func TestExtremePlaces(t *testing.T) {
	for _, tape := range append(smallTapes(), greatTapes()...) {
		numbers := numbersOf(tape)
		for _, v := range extremes() {
			if _, ok := serpentine.Place(tape.g, v); ok {
				t.Errorf("%+v: a place of block %d", tape.g, v)
			}
			for _, w := range append(extremes(), -1, 0, 1, 2) {
				for _, p := range []api.Place{{Wrap: v, Position: w}, {Wrap: w, Position: v}} {
					checkBlock(t, tape, numbers, p)
					p.Back = true
					checkBlock(t, tape, numbers, p)
				}
			}
		}
	}
}

// P9.2: wraps and positions whose product or sum, if it is not exact, is the number of a block
func TestPlacesByInexactSums(t *testing.T) {
	for _, tape := range smallTapes() {
		numbers := numbersOf(tape)
		for n := 0; n <= tape.capacity(); n++ {
			for wrap := -2; wrap <= 6; wrap++ {
				for shift := 56; shift < 64; shift++ {
					far := wrap + 1<<shift
					rest := n - far*tape.g.Length
					checkBlock(t, tape, numbers, api.Place{Wrap: far, Position: rest})
					checkBlock(t, tape, numbers, api.Place{Wrap: far, Position: tape.g.Length - 1 - rest, Back: true})
				}
			}
		}
	}
}
