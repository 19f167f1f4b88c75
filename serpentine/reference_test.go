package serpentine_test

import (
	"math"
	"math/big"
	"testing"

	"tapearchive/api"
	"tapearchive/serpentine"
)

// What the functions must return, computed by going along the tape block by block.

// random is a sequence of numbers that is the same in each run.
type random uint64

// number returns the next number, of 64 bits.
func (r *random) number() uint64 {
	*r = *r*6364136223846793005 + 1442695040888963407
	x := uint64(*r)
	return (x ^ x>>33) * 0xFF51AFD7ED558CCD
}

// below returns the next number, from 0 to n - 1.
func (r *random) below(n int) int { return int(r.number() >> 1 % uint64(n)) }

// tape is a valid geometry with the places of its blocks, and behind them that behind the last block.
type tape struct {
	g      api.Geometry
	places []api.Place
}

// newTape returns the tape of a valid geometry.
func newTape(g api.Geometry) tape {
	t := tape{g: g}
	head := api.Place{}
	for wrap := range g.Wraps {
		if wrap > 0 { // the head turns, and goes on in the next wrap from where it is
			head.Wrap++
			head.Back = !head.Back
		}
		t.places = append(t.places, head)
		for range g.Length - 1 {
			head = beyond(head)
			t.places = append(t.places, head)
		}
	}
	t.places = append(t.places, beyond(head))
	return t
}

// beyond returns the place that follows p in its wrap.
func beyond(p api.Place) api.Place {
	if p.Back {
		p.Position--
	} else {
		p.Position++
	}
	return p
}

// capacity returns the number of blocks.
func (t tape) capacity() int { return len(t.places) - 1 }

// has reports whether there is a place with this number.
func (t tape) has(n int) bool { return n >= 0 && n < len(t.places) }

// gap returns the distance of two blocks along the tape.
func (t tape) gap(from, to int) int {
	n := t.places[from].Position - t.places[to].Position
	if n < 0 {
		return -n
	}
	return n
}

// turns reports whether the motion between two blocks is opposite to the target.
func (t tape) turns(from, to int) bool {
	a, b := t.places[from], t.places[to]
	switch {
	case b.Position > a.Position:
		return b.Back
	case b.Position < a.Position:
		return !b.Back
	}
	return a.Back != b.Back
}

// locate returns what Locate returns.
func (t tape) locate(from, to int) int {
	if !t.has(from) || !t.has(to) || from == to {
		return 0
	}
	time := 0
	for range t.gap(from, to) {
		time += t.g.Step
	}
	for wrap := t.places[from].Wrap; wrap < t.places[to].Wrap; wrap++ {
		time += t.g.Jump
	}
	for wrap := t.places[from].Wrap; wrap > t.places[to].Wrap; wrap-- {
		time += t.g.Jump
	}
	if t.turns(from, to) {
		time += t.g.Turn
	}
	return time
}

// read returns what Read returns.
func (t tape) read(s api.Span) int {
	if !t.has(s.From) || s.Count < 0 || s.Count > t.capacity()-s.From {
		return 0
	}
	time := 0
	for block := s.From; block < s.From+s.Count; block++ {
		if block > s.From && t.places[block].Wrap > t.places[block-1].Wrap {
			time += t.g.Jump + t.g.Turn
		}
		time += t.g.Stream
	}
	return time
}

// passes returns what Passes returns.
func (t tape) passes(from, to int) int {
	if !t.has(from) || !t.has(to) {
		return 0
	}
	parts := 0
	for parts*t.g.Length < t.gap(from, to)*1000 {
		parts++
	}
	return parts
}

// isValid reports whether a geometry is valid.
func isValid(g api.Geometry) bool {
	blocks := new(big.Int).Mul(big.NewInt(int64(g.Wraps)), big.NewInt(int64(g.Length)))
	valid := g.Wraps >= 1 && g.Wraps <= 32 && g.Length >= 1 && blocks.Cmp(big.NewInt(4096)) <= 0
	for _, time := range []int{g.Step, g.Turn, g.Jump, g.Stream} {
		valid = valid && time >= 0 && time <= 1000000
	}
	return valid
}

// timed returns a geometry with the four times Step, Turn, Jump and Stream.
func timed(wraps, length int, times [4]int) api.Geometry {
	return api.Geometry{Wraps: wraps, Length: length, Step: times[0], Turn: times[1], Jump: times[2], Stream: times[3]}
}

// timesOfTests returns times of all sizes: none, one alone, ordinary ones, and the greatest ones.
func timesOfTests() [][4]int {
	return [][4]int{
		{0, 0, 0, 0}, {1, 0, 0, 0}, {0, 1, 0, 0}, {0, 0, 1, 0}, {0, 0, 0, 1},
		{1, 5, 3, 2}, {7, 11, 13, 17}, {2, 1000, 1, 3}, {2, 1, 1000, 5}, {1000, 1, 3, 2}, {0, 7, 5, 3}, {4, 0, 9, 1}, {6, 10, 0, 7},
		{1000000, 1000000, 1000000, 1000000}, {1000000, 0, 0, 0}, {0, 1000000, 0, 0}, {0, 0, 1000000, 0}, {0, 0, 0, 1000000},
	}
}

// smallTapes returns tapes with few wraps and short ones: one wrap and several, an even number and an odd one, of one block and of several.
func smallTapes() []tape {
	var list []tape
	for wraps := 1; wraps <= 5; wraps++ {
		for length := 1; length <= 6; length++ {
			for _, times := range timesOfTests() {
				list = append(list, newTape(timed(wraps, length, times)))
			}
		}
	}
	return list
}

// greatTapes returns tapes of as many blocks as their wraps permit, most of them of MaxBlocks.
func greatTapes() []tape {
	var list []tape
	for _, wraps := range []int{1, 2, 3, 4, 8, 16, 31, 32} {
		for _, times := range [][4]int{{7, 11, 13, 17}, {1000000, 1000000, 1000000, 1000000}} {
			list = append(list, newTape(timed(wraps, 4096/wraps, times)))
		}
	}
	return list
}

// extremes returns the ints beyond which there are none, others whose sums or products are not exact, and ones that are far too great.
func extremes() []int {
	return []int{math.MinInt, math.MinInt + 1, math.MinInt / 2, -1 << 32, -4096, 4097, 1 << 20, 1 << 32, 1 << 62, math.MaxInt / 2, math.MaxInt - 4096, math.MaxInt - 1, math.MaxInt}
}

// invalid returns geometries that are not valid, each by one condition alone.
func invalid() []api.Geometry {
	g := api.Geometry{Wraps: 3, Length: 4, Step: 1, Turn: 5, Jump: 3, Stream: 2}
	var list []api.Geometry
	with := func(field *int, values ...int) {
		before := *field
		for _, v := range values {
			*field = v
			list = append(list, g)
		}
		*field = before
	}
	with(&g.Length, math.MinInt, -4096, -1, 0, 1366, 1<<32, (1<<63)/3*2+2, math.MaxInt)
	for _, time := range []*int{&g.Step, &g.Turn, &g.Jump, &g.Stream} {
		with(time, math.MinInt, -1000000, -1, 1000001, 1<<32, math.MaxInt)
	}
	g.Length = 1
	with(&g.Wraps, math.MinInt, -32, -1, 0, 33, 4096, 1<<32, math.MaxInt)
	g.Wraps = 32
	with(&g.Length, 129, 1<<59, 1<<59+1, 1<<59+128, 1<<62)
	g.Wraps = 1
	with(&g.Length, 4097)
	g.Wraps = 2
	with(&g.Length, 2049, 1<<62, math.MaxInt)
	return list
}

// TestReference checks what the other tests rely on, against the chapter's definition of the places.
func TestReference(t *testing.T) {
	for _, tape := range append(smallTapes(), greatTapes()...) {
		g := tape.g
		if len(tape.places) != g.Wraps*g.Length+1 || !serpentine.Valid(g) || !isValid(g) {
			t.Fatalf("%+v: %d places, or not valid", g, len(tape.places))
		}
		for b, p := range tape.places[:tape.capacity()] {
			k := b % g.Length
			want := api.Place{Wrap: b / g.Length, Position: k}
			if want.Wrap%2 == 1 {
				want.Position, want.Back = g.Length-1-k, true
			}
			if p != want {
				t.Fatalf("%+v: block %d is at %+v, not at %+v", g, b, p, want)
			}
		}
	}
}
