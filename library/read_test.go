package library_test

import (
	"math"
	"testing"

	"tapearchive/api"
)

// reading returns a library whose drive 0 holds A with these blocks and its head in front of a block of them.
func reading(letters string, head int) api.Library {
	l := lib("B-- - - A-")
	l.Cartridges[0].Blocks, l.Drives[0].Head = blocks(letters), head
	return l
}

// P13.6: the blocks of a span, the time of the motion and of reading, and the head behind them
func TestRead(t *testing.T) {
	for _, x := range []struct {
		head, from, count, time, passes int
		want                            string
	}{
		{0, 0, 1, 20003, 334, "a"}, {0, 0, 2, 2 * 20003, 667, "am"}, {0, 1, 1, 11 + 20003, 334 + 334, "m"},
		{2, 0, 1, 22 + 40009 + 20003, 667 + 334, "a"}, {3, 2, 1, 107 + 40009 + 20003, 0, "z"},
		{0, 0, 4, 4*20003 + 107 + 40009, 334, "amzk"}, {5, 1, 4, 11 + 107 + 4*20003 + 107 + 40009, 334 + 334, "mzkc"}, {5, 4, 1, 11 + 40009 + 20003, 334 + 334, "c"},
	} {
		l := reading("amzkc", x.head)
		got := succeed(t, read(0, api.Span{From: x.from, Count: x.count}), l)
		if text(got.blocks) != x.want || got.time != x.time || got.l.Drives[0].Head != x.from+x.count || got.l.Drives[0].Passes != 60000+x.passes || got.l.Cartridges[0].Passes != x.passes {
			t.Errorf("%+v: %s", x, got)
		}
	}
}

// P13.6: From and Count at their bounds and beyond, for all heads and some tapes
func TestReadBounds(t *testing.T) {
	for _, letters := range []string{"", "a", "amz", "amzkc", "amzkcm"} {
		for head := range len(letters) + 1 {
			l := reading(letters, head)
			for from := -2; from <= len(letters)+2; from++ {
				for count := -2; count <= len(letters)+2; count++ {
					o := read(0, api.Span{From: from, Count: count})
					if from < 0 || count < 1 || from+count > len(letters) {
						expect(t, o, l, api.ErrRange)
					} else if got := succeed(t, o, l); text(got.blocks) != letters[from:from+count] {
						t.Errorf("%s", got)
					}
				}
			}
		}
	}
}

// P13.6: Bad blocks in each place of a span: the blocks before, the library and the time are returned with ErrMedia.
func TestReadBad(t *testing.T) {
	for bad := range 5 {
		letters := []byte("amzkc")
		letters[bad] -= 'a' - 'A'
		for head := range 6 {
			l := reading(string(letters), head)
			for from := range 5 {
				for count := 1; from+count <= 5; count++ {
					got := try(t, read(0, api.Span{From: from, Count: count}), l)
					if bad < from || bad >= from+count {
						if got.e != api.OK || len(got.blocks) != count {
							t.Error(got)
						}
						continue
					}
					if got.e != api.ErrMedia || text(got.blocks) != "amzkc"[from:bad] || got.l.Drives[0].Head != bad || !isValid(got.l) {
						t.Error(got)
					}
					if got.time < (bad-from)*20003 || got.time == 0 && (head != from || bad != from) {
						t.Error(got)
					}
				}
			}
		}
	}
	// Behind the first one, others are not looked at.
	got := try(t, read(0, api.Span{From: 1, Count: 4}), reading("amZKC", 3))
	if got.e != api.ErrMedia || text(got.blocks) != "m" || got.time != 11+107+40009+20003 || got.l.Drives[0].Head != 2 || got.l.Drives[0].Since != 8000+334+334 || got.l.Cartridges[0].Passes != 668 {
		t.Error(got)
	}
	got = try(t, read(0, api.Span{From: 0, Count: 1}), reading("A", 0))
	if got.e != api.ErrMedia || len(got.blocks) != 0 || got.time != 0 || !same(got.l, reading("A", 0)) {
		t.Error(got)
	}
}

// P13.6, P13.7: drives that do not exist, that are out of order, and that are empty
func TestReadAndAppendErrors(t *testing.T) {
	l := lib("--- P H A-b!")
	span := api.Span{From: 0, Count: 1}
	for _, n := range append(extremes(), -1, 4, 5) {
		expect(t, read(n, span), l, api.ErrRange)
		expect(t, read(n, api.Span{From: -1}), l, api.ErrRange)
		expect(t, appending(n, blocks("x")), l, api.ErrRange)
		expect(t, appending(n, nil), l, api.ErrRange)
	}
	for number, e := range []api.Errno{api.OK, api.ErrState, api.ErrFault, api.ErrFault} {
		if e == api.OK {
			continue
		}
		expect(t, read(number, span), l, e)
		expect(t, read(number, api.Span{From: -1, Count: 99}), l, e)
		expect(t, appending(number, blocks("x")), l, e)
		expect(t, appending(number, blocks("X")), failed(l), e)
		expect(t, appending(number, nil), l, e)
	}
	// The robot plays no part, nor does the hand.
	succeed(t, read(0, span), failed(l))
	succeed(t, appending(0, blocks("x")), failed(l))
}

// P13.6: the least and the greatest ints in From and Count, whose sum may exceed the range of int
func TestReadExtremes(t *testing.T) {
	l := reading("amzkc", 2)
	for _, n := range extremes() {
		for _, other := range append(extremes(), 0, 1, 5, 6) {
			expect(t, read(0, api.Span{From: n, Count: other}), l, api.ErrRange)
			expect(t, read(0, api.Span{From: other, Count: n}), l, api.ErrRange)
		}
	}
	for from := range 6 {
		for k := range 8 {
			expect(t, read(0, api.Span{From: from, Count: math.MaxInt - k}), l, api.ErrRange)
			expect(t, read(0, api.Span{From: from, Count: math.MinInt + k}), l, api.ErrRange)
			expect(t, read(0, api.Span{From: math.MaxInt - k, Count: 1 + k}), l, api.ErrRange)
		}
	}
}

// P13.6: with each of several drives, the cartridge of this one is read.
func TestReadOfDrives(t *testing.T) {
	l := lib("--- - - BCA")
	for number, want := range []string{"bm", "cm", "am"} {
		got := succeed(t, read(number, api.Span{From: 0, Count: 2}), l)
		for other := range 3 {
			if changed := got.l.Drives[other] != l.Drives[other]; changed != (other == number) {
				t.Errorf("drive %d: %s", number, got)
			}
		}
		if text(got.blocks) != want {
			t.Errorf("drive %d: %s", number, got)
		}
	}
}
