package volume_test

import (
	"fmt"
	"slices"
	"testing"

	"tapearchive/api"
	"tapearchive/container"
)

// shows checks that Scan finds these containers and the label, and that Tail is the number of the blocks behind them.
func shows(t *testing.T, what string, c api.Cartridge, tail int, want ...api.Found) {
	t.Helper()
	got := examine(t, what, c)
	want = slices.Clone(want)
	for i := range want {
		want[i].Barcode, want[i].Epoch = c.Barcode, c.Epoch
	}
	if got.e != api.OK || got.l.Barcode != c.Barcode || got.l.Epoch != c.Epoch || got.tail != tail || !sameFound(got.list, want) {
		t.Errorf("%s: Scan and Tail of %s: %s, want %s, tail %d", what, name(c), got, short(want), tail)
	}
}

// P18.4: no containers, one, and many
func TestScan(t *testing.T) {
	shows(t, "no container", holding(), 0)
	var all [][]api.Block
	var found []api.Found
	first := 2
	for _, b := range containers() {
		shows(t, "one container", holding(b.marked()), 0, b.found(2))
		shows(t, "a container at the end of the capacity", sized(2+len(b.l)+1, b.marked()), 0, b.found(2))
		all, found = append(all, b.marked()), append(found, b.found(first))
		first += len(b.l) + 1
		shows(t, "several containers", holding(all...), 0, found...)
	}
	b := commit(0, 1, 0)
	found = nil
	for i := range 2047 {
		found = append(found, b.found(2+2*i))
	}
	c := holding(slices.Repeat(b.marked(), 2047))
	if s := find(t, "as many as possible", c); len(c.Blocks) != 4096 || s.tail != 0 || !sameFound(s.list, found) {
		t.Errorf("%d containers, tail %d", len(s.list), s.tail)
	}
}

// P18.4: labels of three blocks
func TestScanBehindLongLabels(t *testing.T) {
	for _, b := range containers() {
		c := blank(4096)
		c.Barcode, c.Epoch = capitals[:24], 1<<50
		c.Blocks = slices.Concat(labelBlocks(api.Label{Barcode: c.Barcode, Pool: letters[:24], Epoch: 1 << 50}), b.marked(), b.marked(), b.l)
		n := len(b.l)
		shows(t, "a long label", c, n, b.found(3), b.found(3+n+1))
	}
}

// moved returns containers whose first blocks are behind others.
func moved(list []api.Found, by int) []api.Found {
	list = slices.Clone(list)
	for i := range list {
		list[i].First += by
	}
	return list
}

// P18.4, P18.6: each piece alone, before and behind containers: what is found of it
func TestPieces(t *testing.T) {
	for _, x := range pieces() {
		n := len(x.l)
		tail := n
		if len(x.found) > 0 {
			tail = 0 // Each of them ends with the mark of the last container that is found, or with its last block.
		}
		if x.l[n-1].Mark {
			shows(t, x.name, holding(x.l), tail, moved(x.found, 2)...)
		} else {
			shows(t, x.name, holding(x.l), n)
			if tail > 0 {
				tail++
			}
			x.l = append(cloned(x.l), mark())
			n++
			shows(t, x.name+" and a mark", holding(x.l), tail, moved(x.found, 2)...)
		}
		for _, b := range containers() {
			k := len(b.l) + 1
			shows(t, x.name+" before a container", holding(x.l, b.marked()), 0, append(moved(x.found, 2), b.found(2+n))...)
			shows(t, x.name+" before a torn container", holding(x.l, b.l), tail+k-1, moved(x.found, 2)...)
			shows(t, x.name+" behind a container", holding(b.marked(), x.l), tail, append([]api.Found{b.found(2)}, moved(x.found, 2+k)...)...)
			between := slices.Concat([]api.Found{b.found(2)}, moved(x.found, 2+k), []api.Found{b.found(2 + k + n)})
			shows(t, x.name+" between containers", holding(b.marked(), x.l, b.marked()), 0, between...)
		}
	}
}

// P18.4, P18.6: all sequences of up to three pieces
func TestSequences(t *testing.T) {
	all := pieces()
	for _, x := range all {
		examine(t, x.name, holding(x.l))
		for _, y := range all {
			examine(t, x.name+", "+y.name, holding(x.l, y.l))
			for _, z := range all {
				find(t, x.name+", "+y.name+", "+z.name, holding(x.l, y.l, z.l))
			}
		}
	}
}

// P18.4, P18.6: containers that are torn at each block, alone, and with a mark and a container behind it
func TestTornContainers(t *testing.T) {
	for _, b := range containers() {
		for n := range b.l {
			l := b.l[:n]
			shows(t, "torn", holding(l), n)
			shows(t, "torn behind a container", holding(b.marked(), l), n, b.found(2))
			shows(t, "torn, and a mark", holding(l, one(mark())), n+1)
			shows(t, "torn, and a bad mark", holding(l, one(badMark())), n+1)
			shows(t, "torn, and a container without a mark between", holding(l, b.marked()), tailOf(n, len(b.l)), foundIf(n == 0, b.found(2))...)
			shows(t, "torn, and a container", holding(l, one(mark()), b.marked()), 0, b.found(2+n+1))
			shows(t, "torn, and two containers", holding(l, one(badMark()), b.marked(), b.marked()), 0, b.found(2+n+1), b.found(2+n+1+len(b.l)+1))
		}
		shows(t, "all but the mark", holding(b.l), len(b.l))
		shows(t, "all but the mark, and a block", holding(b.l, one(data("x"))), len(b.l)+1)
		shows(t, "all but the mark, a block and a mark", holding(b.l, one(data("x")), one(mark())), len(b.l)+2)
		shows(t, "all but the mark, a bad block and a mark", holding(b.l, one(badData("x")), one(mark())), len(b.l)+2)
		shows(t, "two containers with one mark", holding(b.l, b.marked()), 2*len(b.l)+1)
	}
}

// tailOf returns that of n blocks, followed by a container without a mark between them: it is found only if there are none.
func tailOf(n, blocks int) int {
	if n == 0 {
		return 0
	}
	return n + blocks + 1
}

// foundIf returns a container or none.
func foundIf(is bool, f api.Found) []api.Found {
	if is {
		return []api.Found{f}
	}
	return nil
}

// P18.4: marks next to one another, before, between and behind containers
func TestMarks(t *testing.T) {
	for _, b := range few() {
		for n := range 5 {
			for _, m := range []api.Block{mark(), badMark()} {
				marks := slices.Repeat(one(m), n)
				k := len(b.l) + 1
				shows(t, "marks alone", holding(marks), n)
				shows(t, "marks before", holding(marks, b.marked()), 0, b.found(2+n))
				shows(t, "marks between", holding(b.marked(), marks, b.marked()), 0, b.found(2), b.found(2+k+n))
				shows(t, "marks behind", holding(b.marked(), marks), n, b.found(2))
				shows(t, "marks behind a container without one", holding(b.l, marks), tailOfMarks(n, len(b.l)), foundIf(n > 0, b.found(2))...)
			}
		}
	}
}

// tailOfMarks returns that of a container with n marks behind it.
func tailOfMarks(n, blocks int) int {
	if n == 0 {
		return blocks
	}
	return n - 1
}

// P18.4: single blocks before, between and behind containers: one that is not followed by a mark hides the container behind it.
func TestSingleBlocks(t *testing.T) {
	for _, b := range few() {
		k := len(b.l) + 1
		for _, x := range []api.Block{data("x"), badData("x"), divided(mixed(64, 9))[0], bad(b.l[0]), labelBlocks(own(blank(9)))[0]} {
			l := one(x)
			m := append(one(x), mark())
			shows(t, "a block before", holding(l, b.marked()), 1+k)
			shows(t, "a block and a mark before", holding(m, b.marked()), 0, b.found(4))
			shows(t, "a block between", holding(b.marked(), l, b.marked()), 1+k, b.found(2))
			shows(t, "a block between, and one more container", holding(b.marked(), l, b.marked(), b.marked()), 0, b.found(2), b.found(2+k+1+k))
			shows(t, "a block and a mark between", holding(b.marked(), m, b.marked()), 0, b.found(2), b.found(2+k+2))
			shows(t, "a block behind", holding(b.marked(), l), 1, b.found(2))
			shows(t, "a block and a mark behind", holding(b.marked(), m), 2, b.found(2))
		}
	}
}

// P18.4: a bad block and a mark at each place of a container, instead of a block and between two of them
func TestDamageAtEachPlace(t *testing.T) {
	after := commit(44, 1, 3)
	for _, b := range containers() {
		header := container.HeaderBlocks(b.h)
		all := b.marked()
		for at := range all {
			what := fmt.Sprintf("at %d of %s", at, b)
			n := len(all)
			// Payload blocks may be bad, and so may the mark.
			damaged := holding(changed(all, at, bad), after.marked())
			if at >= header {
				shows(t, "a bad block "+what, damaged, 0, b.found(2), after.found(2+n))
			} else {
				shows(t, "a bad block "+what, damaged, 0, after.found(2+n))
			}
			shows(t, "a bad block more "+what, holding(inserted(all, at, badData("x")), after.marked()), 0, after.found(2+n+1))
			for _, m := range []api.Block{mark(), badMark()} {
				replaced, more := holding(with(all, at, m), after.marked()), holding(inserted(all, at, m), after.marked())
				switch at {
				case n - 1:
					shows(t, "another mark "+what, replaced, 0, b.found(2), after.found(2+n))
					shows(t, "a mark before the mark "+what, more, 0, b.found(2), after.found(2+n+1))
				case 0:
					shows(t, "a mark in front "+what, more, 0, b.found(3), after.found(2+n+1))
					fallthrough
				default:
					shows(t, "a mark instead "+what, replaced, 0, after.found(2+n))
				}
				if at > 0 && at < n-1 {
					shows(t, "a mark between "+what, more, 0, after.found(2+n+1))
				}
			}
		}
	}
}

// P18.4: headers that say fewer and more blocks than there are up to the mark, up to the end of data and beyond it
func TestNumbersOfBlocks(t *testing.T) {
	for _, version := range []int{1, 2} {
		for blocks := range 6 {
			for said := range 12 {
				room := map[int]int{1: 64, 2: 60}[version]
				b := longer(commit(3, version, blocks*room), said*room)
				k := len(b.l) // It is whole if the header says as many as there are.
				f := b.found(2)
				same := said == blocks
				what := fmt.Sprintf("%d blocks, of which the header says %d", blocks, said)
				shows(t, what, holding(b.l), k)
				if same {
					shows(t, what, holding(b.marked()), 0, f)
					shows(t, what, holding(b.marked(), b.marked()), 0, f, b.found(2+k+1))
				} else {
					shows(t, what, holding(b.marked()), k+1)
					shows(t, what, holding(b.marked(), b.marked()), 2*k+2)
				}
				for more := range 4 {
					rest := slices.Repeat(one(data("x")), more)
					whole := blocks+more == said
					if !whole {
						shows(t, what+" and more", holding(b.l, rest, one(mark())), k+more+1)
						continue
					}
					f := b.found(2)
					f.Count += more
					shows(t, what+" and more", holding(b.l, rest, one(mark())), 0, f)
					shows(t, what+" and more", holding(b.l, rest), k+more)
				}
			}
		}
	}
	far := longer(commit(3, 1, 64), 4096*64)
	shows(t, "the greatest number of blocks", holding(far.marked(), far.marked()), 6)
	shows(t, "the greatest number of blocks", sized(9, far.l), 2)
}

// P18.4: containers whose payload has the form of a container, and of one with a mark before and behind it
func TestContainersInContainers(t *testing.T) {
	for _, b := range []built{commit(6, 1, 70), commit(5, 1, 0), files(9, 1, 64, 70), parity(8, 2, 61)} {
		inner := nested(b)
		k, n := len(b.l), len(inner.l)
		if n != k+2 || !sameBlocks(inner.l[2:], b.l) {
			t.Fatalf("%s is not in %s", b, inner)
		}
		all := inner.marked()
		shows(t, "a container in a container", holding(all), 0, inner.found(2))
		shows(t, "the outer one is torn", holding(all[1:], all), 0, inner.found(2+n))
		shows(t, "its header is bad", holding(changed(all, 0, bad)), n+1)
		shows(t, "its first payload block is bad", holding(changed(all, 1, bad)), 0, inner.found(2))
		shows(t, "its first payload block is a mark", holding(with(all, 1, mark())), 0, b.found(4))
		shows(t, "its first payload block is a bad mark", holding(with(all, 1, badMark())), 0, b.found(4))
		shows(t, "its header is a mark", holding(with(all, 0, mark())), n+1)
		shows(t, "a mark before the inner one", holding(inserted(all, 2, mark())), 0, b.found(5))
		shows(t, "two of them", holding(all, all), 0, inner.found(2), inner.found(2+n+1))
	}
}

// P18.4: a label behind the label is nothing that is found.
func TestSecondLabel(t *testing.T) {
	b := sample()
	l := labelBlocks(own(blank(9)))
	shows(t, "a second label", holding(l), 2)
	shows(t, "a second label before a container", holding(l, b.marked()), 0, b.found(4))
	shows(t, "a second label behind a container", holding(b.marked(), l), 2, b.found(2))
}

// P18.4 to P18.6: random blocks of containers, single blocks and marks, some of which are bad
func TestRandomVolumes(t *testing.T) {
	var r random
	all := pieces()
	for _, b := range containers() {
		all = append(all, piece{"", b.marked(), nil}, piece{"", b.marked(), nil})
	}
	total, tails := 0, 0
	for range 3000 {
		var l []api.Block
		for range r.below(8) {
			l = append(l, all[r.below(len(all))].l...)
		}
		l = cloned(l)
		for range r.below(4) {
			if len(l) == 0 {
				break
			}
			at := r.below(len(l))
			switch r.below(6) {
			case 0, 1:
				l[at].Bad = true
			case 2:
				l = slices.Delete(l, at, at+1)
			case 3:
				l = slices.Insert(l, at, l[r.below(len(l))])
			case 4:
				l[at] = mark()
			case 5:
				if n := len(l[at].Data); n > 0 {
					l[at].Data[r.below(n)] ^= byte(1 + r.below(255))
				}
			}
		}
		s := examine(t, "random blocks", holding(cloned(l)))
		total += len(s.list)
		tails += min(s.tail, 1)
	}
	if total < 3000 || tails < 1000 {
		t.Errorf("%d containers, %d tails", total, tails)
	}
}
