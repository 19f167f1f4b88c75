package library_test

import (
	"strings"
	"testing"

	"tapearchive/api"
)

// P13.7: the number of the first block, the blocks behind those that were there, the time, and the head behind them
func TestAppend(t *testing.T) {
	for _, x := range []struct {
		before           string
		head, time, away int
		more             string
	}{
		{"", 0, 20003, 334, "a"}, {"am", 2, 20003, 0, "z"}, {"am", 0, 22 + 20003, 667, "z"}, {"amz", 0, 22 + 107 + 40009 + 20003, 667 + 334, "k"},
		{"", 0, 6*20003 + 107 + 40009, 334, "bmzckm"}, {"am", 1, 11 + 4*20003 + 107 + 40009, 334 + 667, "kmbz"}, {"amzkc", 5, 20003, 334, "m"}, {"amZKC", 5, 20003, 334, "z"},
	} {
		got := succeed(t, appending(0, blocks(x.more)), reading(x.before, x.head))
		if text(got.l.Cartridges[0].Blocks) != x.before+x.more || got.first != len(x.before) || got.l.Drives[0].Head != len(x.before+x.more) {
			t.Errorf("%+v: %s", x, got)
		}
		if got.time != x.time {
			t.Errorf("%+v: the time is %d", x, got.time)
		}
	}
}

// P13.7: up to the capacity and one block more, with all heads
func TestAppendFull(t *testing.T) {
	for n := range 7 {
		for head := range n + 1 {
			l := reading("amzkcm"[:n], head)
			for more := 1; more <= 8; more++ {
				o := appending(0, blocks(strings.Repeat("z", more)))
				if n+more > 6 {
					expect(t, o, l, api.ErrFull)
				} else if got := succeed(t, o, l); got.first != n || got.l.Cartridges[0].Epoch != 3 {
					t.Error(got)
				}
			}
		}
	}
}

// P13.7: no blocks, blocks that are not valid, and blocks that are Bad
func TestAppendInvalid(t *testing.T) {
	l := reading("amz", 1)
	for _, more := range [][]api.Block{nil, {}, {{}}, {{Mark: true, Data: []byte("a")}}, {{Data: make([]byte, 65)}}, {{Data: []byte{}}}, blocks("X"), blocks("M"), blocks("aXb"), blocks("abX"), blocks("XXXXXXXXX"), append(blocks("ab"), api.Block{})} {
		expect(t, appending(0, more), l, api.ErrInvalid)
	}
	succeed(t, appending(0, []api.Block{{Mark: true, Data: []byte{}}, {Data: []byte{0}}}), l)
}

// P13.7: cartridges that are locked, write-once and worn; what the motion to the end of data adds to the passes counts.
func TestAppendProtected(t *testing.T) {
	for _, x := range []struct {
		barcode string
		e       api.Errno
	}{{"A", api.OK}, {"C", api.ErrProtected}, {"D", api.ErrProtected}, {"E", api.OK}} {
		l := lib("--- - - " + x.barcode + "-")
		for head := range 6 {
			l.Drives[0].Head = head
			got := try(t, appending(0, blocks("x")), l)
			if got.e != x.e || x.e != api.OK && !got.equal(result{e: x.e}) {
				t.Error(got)
			}
		}
	}
	for _, x := range []struct {
		life, passes, head int
		e                  api.Errno
	}{
		{1000, 999, 2, api.OK}, {1000, 1000, 2, api.ErrProtected}, {1000, 666, 1, api.ErrProtected}, {1000, 665, 1, api.OK}, {1000, 665, 0, api.ErrProtected}, {1000, 332, 0, api.OK}, {1000, 333, 0, api.ErrProtected},
		{0, 1 << 50, 0, api.OK}, {1 << 50, 1<<50 - 1, 2, api.OK}, {1 << 50, 1<<50 - 1, 1, api.ErrProtected}, {1 << 50, 1 << 50, 2, api.ErrProtected}, {1, 0, 2, api.OK}, {1, 0, 1, api.ErrProtected},
	} {
		l := reading("am", x.head)
		l.Drive.CartridgeLife, l.Cartridges[0].Passes = x.life, x.passes
		if got := try(t, appending(0, blocks("x")), l); got.e != x.e {
			t.Errorf("%+v: %s", x, got)
		}
	}
	// What is worn, locked or full can be read.
	for _, text := range []string{"--- - - C-", "--- - - D-", "--- - - E-"} {
		succeed(t, read(0, api.Span{From: 0, Count: 3}), lib(text))
	}
}

// P13.7: with each of several drives, the cartridge of this one is written, also if that is due.
func TestAppendOfDrives(t *testing.T) {
	l := lib("--- - - BFA")
	for number, want := range []string{"B", "F", "A"} {
		got := succeed(t, appending(number, blocks("x")), l)
		for i, c := range got.l.Cartridges {
			if changed := !sameTape(c, l.Cartridges[i]); changed != (c.Barcode == want) {
				t.Errorf("drive %d: %s", number, got)
			}
		}
		if got.first != 5 {
			t.Errorf("drive %d: %s", number, got)
		}
	}
}
