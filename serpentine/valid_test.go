package serpentine_test

import (
	"math"
	"testing"

	"tapearchive/api"
	"tapearchive/serpentine"
)

// checkValid checks Valid and Capacity of a geometry.
func checkValid(t *testing.T, g api.Geometry) {
	t.Helper()
	valid, capacity := isValid(g), 0
	if valid {
		capacity = g.Wraps * g.Length
	}
	if got := serpentine.Valid(g); got != valid {
		t.Errorf("Valid(%+v): %t", g, got)
	}
	if got := serpentine.Capacity(g); got != capacity {
		t.Errorf("Capacity(%+v): %d, want %d", g, got, capacity)
	}
}

// P9.1: the limits of Wraps, Length and their product, one by one
func TestLimitsOfBlocks(t *testing.T) {
	for _, c := range []struct {
		wraps, length int
		valid         bool
	}{
		{1, 1, true}, {2, 10, true}, {32, 1, true}, {32, 127, true}, {32, 128, true}, {1, 4095, true}, {1, 4096, true}, {2, 2048, true}, {3, 1365, true}, {16, 256, true}, {31, 132, true}, {4, 1023, true}, {17, 240, true},
		{0, 1, false}, {-1, 1, false}, {33, 1, false}, {1, 0, false}, {1, -1, false}, {32, 0, false}, {32, 129, false}, {1, 4097, false}, {2, 2049, false}, {3, 1366, false}, {16, 257, false}, {31, 133, false}, {17, 241, false}, {33, 124, false}, {4096, 1, false},
		{0, 0, false}, {-1, -1, false}, {-2, -2, false}, {-32, -128, false}, {0, 4096, false}, {0, math.MaxInt, false}, {32, math.MaxInt, false}, {math.MaxInt, math.MaxInt, false}, {math.MinInt, math.MinInt, false}, {math.MinInt, math.MaxInt, false}, {-1, math.MinInt, false}, {math.MinInt, -1, false},
		{32, 1<<59 + 1, false}, {3, (1<<63)/3*2 + 2, false}, {2, 1 << 62, false}, {4, 1 << 62, false}, {16, 1<<60 + 16, false},
	} {
		g := timed(c.wraps, c.length, [4]int{1, 5, 3, 2})
		if got := serpentine.Valid(g); got != c.valid {
			t.Errorf("Valid(%+v): %t", g, got)
		}
		checkValid(t, g)
	}
}

// P9.1: all numbers of wraps, with all lengths near the limits
func TestManyLimitsOfBlocks(t *testing.T) {
	for wraps := -2; wraps <= 40; wraps++ {
		lengths := append(extremes(), -2, -1, 0, 1, 2, 3, 127, 128, 129, 2047, 2048, 2049, 4095, 4096)
		if wraps > 0 {
			lengths = append(lengths, 4096/wraps-1, 4096/wraps, 4096/wraps+1, math.MaxInt/wraps, math.MaxInt/wraps+1, 2*(math.MaxInt/wraps+1))
		}
		for _, length := range lengths {
			checkValid(t, timed(wraps, length, [4]int{}))
		}
	}
}

// P9.1: the limits of the times, one by one and together
func TestLimitsOfTimes(t *testing.T) {
	values := append(extremes(), -1000000, -2, -1, 0, 1, 2, 999999, 1000000, 1000001, 2000000)
	for field := range 4 {
		for _, v := range values {
			for _, others := range []int{0, 1, 1000000, -1, 1000001} {
				times := [4]int{others, others, others, others}
				times[field] = v
				checkValid(t, timed(3, 10, times))
			}
		}
	}
	for _, v := range []int{0, 1000000} {
		if g := timed(3, 10, [4]int{v, v, v, v}); !serpentine.Valid(g) || serpentine.Capacity(g) != 30 {
			t.Errorf("%+v is not valid, or has %d blocks", g, serpentine.Capacity(g))
		}
	}
	if serpentine.Valid(api.Geometry{}) || serpentine.Capacity(api.Geometry{}) != 0 {
		t.Error("the zero geometry is valid, or has blocks")
	}
}

// P9.1: the extreme ints in all fields, alone and two at a time
func TestExtremeGeometries(t *testing.T) {
	for a := range 6 {
		for b := range 6 {
			for _, v := range extremes() {
				for _, w := range extremes() {
					fields := [6]int{2, 10, 1, 5, 3, 2}
					fields[a], fields[b] = v, w
					g := timed(fields[0], fields[1], [4]int(fields[2:]))
					checkValid(t, g)
					if !isValid(g) {
						checkNothing(t, g, []int{0, 1, v, w})
					}
				}
			}
		}
	}
}

// checkNothing checks that all functions return zero values for a geometry that is not valid, with the numbers as arguments.
func checkNothing(t *testing.T, g api.Geometry, numbers []int) {
	t.Helper()
	if serpentine.Valid(g) || serpentine.Capacity(g) != 0 || serpentine.Farthest(g) != 0 {
		t.Errorf("%+v: valid, or %d blocks, or the farthest ones at %d", g, serpentine.Capacity(g), serpentine.Farthest(g))
	}
	for _, a := range numbers {
		if p, ok := serpentine.Place(g, a); ok || p != (api.Place{}) {
			t.Errorf("%+v: block %d has the place %+v %t", g, a, p, ok)
		}
		for _, b := range numbers {
			for _, back := range []bool{false, true} {
				p := api.Place{Wrap: a, Position: b, Back: back}
				if n, ok := serpentine.Block(g, p); ok || n != 0 {
					t.Errorf("%+v: at %+v is block %d %t", g, p, n, ok)
				}
			}
			locate, passes, read := serpentine.Locate(g, a, b), serpentine.Passes(g, a, b), serpentine.Read(g, api.Span{From: a, Count: b})
			if locate != 0 || passes != 0 || read != 0 {
				t.Errorf("%+v, %d and %d: Locate %d, Passes %d, Read %d", g, a, b, locate, passes, read)
			}
		}
	}
}

// The sentence on geometries that are not valid: by each condition alone, with every function
func TestInvalidGeometries(t *testing.T) {
	for _, g := range invalid() {
		checkValid(t, g)
		checkNothing(t, g, []int{math.MinInt, -1, 0, 1, 2, 3, 4, 5, 7, 8, 11, 12, 13, 31, 32, 4095, 4096, 4097, g.Length - 1, g.Length, g.Wraps, math.MaxInt})
	}
	checkNothing(t, api.Geometry{}, []int{math.MinInt, -1, 0, 1, math.MaxInt})
}
