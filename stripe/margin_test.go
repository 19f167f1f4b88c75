package stripe_test

import (
	"testing"

	"tapearchive/api"
)

// P17.5: none, some and all members, in all choices of small sets
func TestMarginOfEveryChoice(t *testing.T) {
	for _, plan := range smallPlans() {
		s := row(plan[0], plan[1])
		for _, have := range choices(plan[0] + plan[1]) {
			if got, want := margin(t, s, have), max(-1, count(have)-plan[0]); got != want {
				t.Errorf("Margin of %+v with %v: %d, want %d", s, have, got, want)
			}
		}
	}
}

// P17.5: all numbers of data and parity members, and all numbers of those that are there
func TestMarginOfAllPlans(t *testing.T) {
	var r random
	plans(func(data, parity int) {
		s := row(data, parity)
		n := data + parity
		for there := range n + 1 {
			if got, want := margin(t, s, r.choice(n, there)), max(-1, there-data); got != want {
				t.Errorf("%d of %+v: %d, want %d", there, s, got, want)
			}
		}
		if got := margin(t, s, all(n)); got != parity {
			t.Errorf("all of %+v: %d", s, got)
		}
		if got := margin(t, s, make([]bool, n)); got != -1 {
			t.Errorf("none of %+v: %d", s, got)
		}
	})
}

// P17.5: have with fewer and with more elements than there are members
func TestMarginOfOtherNumbers(t *testing.T) {
	plans(func(data, parity int) {
		s := row(data, parity)
		n := data + parity
		for k := range n + 3 {
			if got := margin(t, s, all(k)); (got == -1) != (k != n) {
				t.Errorf("%d elements for %+v: %d", k, s, got)
			}
			if got := margin(t, s, make([]bool, k)); got != -1 {
				t.Errorf("%d elements for %+v, none of them there: %d", k, s, got)
			}
		}
		for _, have := range [][]bool{nil, {}, all(1000)} {
			if got := margin(t, s, have); got != -1 {
				t.Errorf("%d elements for %+v: %d", len(have), s, got)
			}
		}
	})
}

// P17.5: rows that are not valid by one condition alone
func TestMarginOfInvalidRows(t *testing.T) {
	for _, c := range invalidRows() {
		for _, n := range []int{len(c.s.Members), max(0, c.s.Data), 0, 1, 16} {
			if n > 100 {
				continue
			}
			for _, have := range [][]bool{all(n), make([]bool, n)} {
				if got := margin(t, c.s, have); got != -1 {
					t.Errorf("%s: %d of %+v: %d", c.name, n, c.s, got)
				}
			}
		}
	}
	for _, have := range [][]bool{nil, {}, {true}} {
		if got := margin(t, api.Set{}, have); got != -1 {
			t.Errorf("%v of the zero row: %d", have, got)
		}
	}
}
