package serpentine_test

import (
	"testing"

	"tapearchive/api"
	"tapearchive/serpentine"
)

// placeOf returns the place of a block that has one.
func placeOf(t *testing.T, g api.Geometry, block int) api.Place {
	t.Helper()
	p, ok := serpentine.Place(g, block)
	if !ok {
		t.Fatalf("%+v: no place of block %d", g, block)
	}
	return p
}

// P9.7: Block inverts Place, and successive places are beside each other, or at the same position of successive wraps
func TestSuccessivePlaces(t *testing.T) {
	for _, tape := range append(smallTapes(), greatTapes()...) {
		g := tape.g
		c := serpentine.Capacity(g)
		for b := range c + 1 {
			p := placeOf(t, g, b)
			if n, ok := serpentine.Block(g, p); n != b || !ok {
				t.Errorf("%+v: the place of block %d is that of %d %t", g, b, n, ok)
			}
			if b == c {
				continue
			}
			next := placeOf(t, g, b+1)
			switch distance := (next.Position - p.Position) * (next.Position - p.Position); {
			case next.Wrap == p.Wrap:
				if distance != 1 || next.Back != p.Back {
					t.Errorf("%+v: from %+v to %+v, which is not beside it", g, p, next)
				}
			case next.Wrap != p.Wrap+1 || distance != 0 || next.Back == p.Back || (b+1)%g.Length != 0:
				t.Errorf("%+v: from %+v to %+v, which does not begin the next wrap", g, p, next)
			}
		}
	}
}

// P9.8: within a wrap, a way forward in it is as long as its parts
func TestWaysWithinWraps(t *testing.T) {
	for _, tape := range smallTapes() {
		g := tape.g
		for a := range tape.places {
			for c := a; c < len(tape.places) && tape.places[c].Wrap == tape.places[a].Wrap; c++ {
				for b := a; b <= c; b++ {
					whole, first, second := serpentine.Locate(g, a, c), serpentine.Locate(g, a, b), serpentine.Locate(g, b, c)
					if whole != first+second || whole != g.Step*(c-a) {
						t.Errorf("%+v: from %d to %d it is %d, by way of %d %d and %d", g, a, c, whole, b, first, second)
					}
				}
			}
		}
	}
}

// checkParts checks Read of a span that is divided behind n blocks.
func checkParts(t *testing.T, g api.Geometry, s api.Span, n int) {
	t.Helper()
	second := api.Span{From: s.From + n, Count: s.Count - n}
	want := serpentine.Read(g, api.Span{From: s.From, Count: n}) + serpentine.Read(g, second)
	if second.From%g.Length == 0 {
		want += g.Jump + g.Turn
	}
	if got := serpentine.Read(g, s); got != want {
		t.Errorf("%+v: reading %+v takes %d, in parts, the first one of %d blocks, %d", g, s, got, n, want)
	}
}

// P9.8: the parts of a span
func TestPartsOfSpans(t *testing.T) {
	for _, tape := range smallTapes() {
		for from := range tape.capacity() {
			for count := 2; count <= tape.capacity()-from; count++ {
				for n := 1; n < count; n++ {
					checkParts(t, tape.g, api.Span{From: from, Count: count}, n)
				}
			}
		}
	}
	var r random
	for _, tape := range greatTapes() {
		for range 1000 {
			from := r.below(tape.capacity() - 1)
			count := 2 + r.below(tape.capacity()-from-1)
			checkParts(t, tape.g, api.Span{From: from, Count: count}, 1+r.below(count-1))
		}
	}
}

// checkBack checks that both ways between two blocks differ by at most Turn.
func checkBack(t *testing.T, g api.Geometry, a, b int) {
	t.Helper()
	there, back := serpentine.Locate(g, a, b), serpentine.Locate(g, b, a)
	if there-back > g.Turn || back-there > g.Turn {
		t.Errorf("%+v: from %d to %d it is %d, and back %d", g, a, b, there, back)
	}
}

// P9.8: there and back
func TestThereAndBack(t *testing.T) {
	for _, tape := range smallTapes() {
		for a := range tape.places {
			for b := range tape.places {
				checkBack(t, tape.g, a, b)
			}
		}
	}
	var r random
	for _, tape := range greatTapes() {
		for range 10000 {
			checkBack(t, tape.g, r.below(len(tape.places)), r.below(len(tape.places)))
		}
	}
}
