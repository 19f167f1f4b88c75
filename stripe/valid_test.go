package stripe_test

import (
	"math"
	"slices"
	"testing"

	"tapearchive/api"
)

// named is a row with a name.
type named struct {
	name string
	s    api.Set
}

// changed returns a row after a change.
func changed(s api.Set, change func(s *api.Set)) api.Set {
	s.Members = slices.Clone(s.Members)
	change(&s)
	return s
}

// invalidRows are rows that are not valid by one condition alone.
func invalidRows() []named {
	var list []named
	put := func(name string, s api.Set, change func(s *api.Set)) {
		list = append(list, named{name, changed(s, change)})
	}
	for _, s := range []api.Set{row(1, 0), row(1, 1), row(3, 2), row(13, 3), row(16, 0)} {
		for _, n := range ints() {
			if isNumber(n) {
				continue
			}
			put("a bad ID", s, func(s *api.Set) { s.ID = n })
			for _, at := range []int{0, len(s.Members) / 2, len(s.Members) - 1} {
				put("a bad member", s, func(s *api.Set) { s.Members[at] = n })
			}
		}
		put("a member is missing", s, func(s *api.Set) { s.Members = s.Members[1:] })
		put("a member is too many", s, func(s *api.Set) { s.Members = append(s.Members, 5) })
		put("no members", s, func(s *api.Set) { s.Members = nil })
		put("all members twice", s, func(s *api.Set) { s.Members = append(s.Members, s.Members...) })
		for i := range s.Members {
			for j := range i {
				put("two equal members", s, func(s *api.Set) { s.Members[i] = s.Members[j] })
			}
		}
		put("all members equal", s, func(s *api.Set) {
			s.Members = slices.Repeat([]int{7}, max(2, len(s.Members)))
			s.Data = len(s.Members) - s.Parity
		})
	}
	for n := 1; n <= 16; n++ {
		put("no data", row(0, n), func(s *api.Set) {})
		put("negative data", row(-1, n+1), func(s *api.Set) {})
		put("negative parity", row(n+1, -1), func(s *api.Set) {})
	}
	for data := 1; data <= 17; data++ {
		put("too many members", row(data, 17-data), func(s *api.Set) {})
	}
	put("far too many members", row(17, 0), func(s *api.Set) {})
	put("the least parity", row(16, 0), func(s *api.Set) { s.Parity = math.MinInt })
	put("the least data", row(16, 0), func(s *api.Set) { s.Data = math.MinInt })
	put("a sum that exceeds the range of int", row(14, 0), func(s *api.Set) { s.Data, s.Parity = math.MaxInt, math.MaxInt })
	put("a difference that does", row(14, 0), func(s *api.Set) { s.Data, s.Parity = math.MinInt, math.MinInt+14 })
	return append(list, named{"the zero row", api.Set{}})
}

// P17.1: rows that are not valid by one condition alone
func TestInvalidRows(t *testing.T) {
	for _, c := range invalidRows() {
		if valid(t, c.s) {
			t.Errorf("%s: %+v is valid", c.name, c.s)
		}
	}
}

// P17.1: all numbers of data and parity members, with as many members, one less and one more
func TestValidPlans(t *testing.T) {
	for data := -2; data <= 18; data++ {
		for parity := -2; parity <= 18; parity++ {
			for more := -1; more <= 1; more++ {
				n := data + parity + more
				s := api.Set{ID: 1, Data: data, Parity: parity, Members: members(n)}
				if got, want := valid(t, s), data >= 1 && parity >= 0 && data+parity <= 16 && more == 0; got != want {
					t.Errorf("%+v: %t", s, got)
				}
			}
		}
	}
}

// P17.1: the greatest numbers, and the least ones
func TestBoundsOfNumbers(t *testing.T) {
	for _, n := range ints() {
		s := row(2, 1)
		s.ID = n
		if got := valid(t, s); got != isNumber(n) {
			t.Errorf("the ID %d: %t", n, got)
		}
		for at := range 3 {
			s := api.Set{ID: 1, Data: 2, Parity: 1, Members: []int{51, 52, 53}}
			s.Members[at] = n
			if got := valid(t, s); got != isNumber(n) {
				t.Errorf("the member %d at %d: %t", n, at, got)
			}
		}
		if got := valid(t, api.Set{ID: 1, Data: 1, Members: []int{n}}); got != isNumber(n) {
			t.Errorf("the member %d alone: %t", n, got)
		}
	}
}

// P17.1: every two numbers of data and parity members, with every number of members
func TestPlansOfAnyNumbers(t *testing.T) {
	for _, data := range ints() {
		for _, parity := range ints() {
			for n := range 20 {
				valid(t, api.Set{ID: 1, Data: data, Parity: parity, Members: members(n)})
			}
		}
	}
}

// P17.1: members that are equal in pairs, at all places, whatever the other ones are
func TestEqualMembers(t *testing.T) {
	for n := 2; n <= 16; n++ {
		for data := 1; data <= n; data++ {
			s := row(data, n-data)
			if !valid(t, s) {
				t.Errorf("%+v is not valid", s)
			}
			for i := range n {
				for j := range i {
					twice := changed(s, func(s *api.Set) { s.Members[j] = s.Members[i] })
					if valid(t, twice) {
						t.Errorf("%+v is valid", twice)
					}
				}
			}
		}
	}
}

// P17.1: members in order, in the opposite order and mixed
func TestOrdersOfMembers(t *testing.T) {
	for n := 1; n <= 16; n++ {
		s := row(n, 0)
		for range 2 {
			slices.Sort(s.Members)
			valid(t, s)
			slices.Reverse(s.Members)
			if !valid(t, s) {
				t.Errorf("%+v is not valid", s)
			}
			s.Members[0], s.Members[n/2] = s.Members[n/2], s.Members[0]
			if !valid(t, s) {
				t.Errorf("%+v is not valid", s)
			}
		}
	}
}

// P17.1: the ID of a set may be the number of a member.
func TestNumberOfSetAmongMembers(t *testing.T) {
	for _, at := range []int{0, 1, 2} {
		s := row(2, 1)
		s.ID = s.Members[at]
		if !valid(t, s) {
			t.Errorf("%+v is not valid", s)
		}
	}
}

// P17.1: random rows
func TestRandomRows(t *testing.T) {
	var r random
	list := ints()
	n := 0
	for range 20000 {
		data := 1 + r.below(16)
		s := row(data, r.below(17-data))
		for range r.below(3) {
			x := list[r.below(len(list))]
			switch r.below(5) {
			case 0:
				s.ID = x
			case 1:
				s.Data = x
			case 2:
				s.Parity = x
			case 3:
				s.Members[r.below(len(s.Members))] = x
			case 4:
				s.Members[r.below(len(s.Members))] = s.Members[r.below(len(s.Members))]
			}
		}
		if valid(t, s) {
			n++
		}
	}
	if n < 3000 || n > 17000 {
		t.Errorf("%d of 20000 rows were valid", n)
	}
}

// R1, R3: many members, and none
func TestNumbersOfMembers(t *testing.T) {
	for _, n := range []int{0, 1, 15, 16, 17, 1000, 100000} {
		list := make([]int, n)
		for i := range list {
			list[i] = i + 1
		}
		for _, data := range []int{n - 1, n, n + 1} {
			if got := valid(t, api.Set{ID: 1, Data: data, Members: list}); got != (data == n && n >= 1 && n <= 16) {
				t.Errorf("%d members for %d: %t", n, data, got)
			}
		}
	}
	for _, list := range [][]int{nil, {}, make([]int, 0, 10)} {
		for data := -1; data <= 1; data++ {
			if valid(t, api.Set{ID: 1, Data: data, Members: list}) || valid(t, api.Set{ID: 1, Data: data, Parity: -data, Members: list}) {
				t.Errorf("%d of no members: valid", data)
			}
		}
	}
}
