package drive_test

import (
	"strings"
	"testing"

	"tapearchive/api"
)

// P11.4: -1, 0, 1, as many blocks as follow and one more
func TestRead(t *testing.T) {
	c := holding(chapter(), "abcdefghijklnozy") // 16 blocks, of which 9 and 10 are on both sides of a turn
	for _, x := range []struct {
		head, n      int
		want         string
		time, passes int
	}{
		{0, 1, "a", 2, 100}, {0, 9, "abcdefghi", 18, 900}, {0, 10, "abcdefghij", 20, 900}, {0, 11, "abcdefghijk", 22 + 8, 800}, {0, 16, "abcdefghijklnozy", 32 + 8, 300},
		{9, 1, "j", 2, 0}, {9, 2, "jk", 4 + 8, 100}, {9, 7, "jklnozy", 14 + 8, 600}, {8, 3, "ijk", 6 + 8, 0}, {8, 2, "ij", 4, 100},
		{10, 1, "k", 2, 100}, {10, 6, "klnozy", 12, 600}, {15, 1, "y", 2, 100}, {14, 2, "zy", 4, 200},
	} {
		want := result{d: ready(x.head + x.n), c: c, l: blocks(x.want), time: x.time}
		want.d.Passes += x.passes
		want.d.Since += x.passes
		want.c.Passes += x.passes
		if got := try(t, read(x.n), model(), ready(x.head), c); !got.equal(want) {
			t.Errorf("Read of %d from %d: %s, want %s", x.n, x.head, got, want)
		}
	}
	for head := 0; head <= 16; head++ {
		for _, n := range append(extremes(), -2, -1, 0, 16-head+1, 16-head+2, 20, 21, 4096, 4097) {
			expect(t, read(n), model(), ready(head), c, api.ErrRange)
		}
	}
	expect(t, read(1), model(), ready(0), holding(chapter(), ""), api.ErrRange)
	expect(t, read(0), model(), ready(0), holding(chapter(), ""), api.ErrRange)
}

// P11.4: to the last block of a tape
func TestReadToTheEnd(t *testing.T) {
	c := holding(chapter(), strings.Repeat("a", 20))
	for _, x := range []struct{ head, n, time, passes int }{{19, 1, 2, 100}, {10, 10, 20, 1000}, {0, 20, 48, 100}, {9, 11, 30, 1000}} {
		got := try(t, read(x.n), model(), ready(x.head), c)
		if got.e != api.OK || got.d.Head != 20 || got.time != x.time || got.c.Passes != 3456+x.passes || len(got.l) != x.n {
			t.Errorf("Read of %d from %d: %s", x.n, x.head, got)
		}
	}
	expect(t, read(1), model(), ready(20), c, api.ErrRange)
}

// P11.4: a Bad block that is the first one, in the middle, the last one, and behind what is read
func TestReadBad(t *testing.T) {
	for _, letter := range []string{"A", "Z", "M"} {
		for bad := range 6 {
			letters := "amzkby"[:bad] + letter + "amzkby"[bad+1:]
			c := holding(geometry(2, 3), letters)
			for head := 0; head <= 6; head++ {
				for n := 1; n <= 6-head; n++ {
					want, e := n, api.OK
					if head <= bad && bad < head+n {
						want, e = bad-head, api.ErrMedia
					}
					got := try(t, read(n), model(), ready(head), c)
					if got.e != e || text(got.l) != letters[head:head+want] || got.d.Head != head+want || got.d.State != api.DriveReady || !sameBlocks(got.c.Blocks, c.Blocks) {
						t.Errorf("Read of %d from %d of %s: %s", n, head, letters, got)
					}
					if want == 0 && !got.equal(result{d: ready(head), c: c, e: api.ErrMedia}) {
						t.Errorf("Read of %d from the bad block %d: %s", n, head, got)
					}
				}
				expect(t, read(7-head), model(), ready(head), c, api.ErrRange) // whatever is bad
				expect(t, read(0), model(), ready(head), c, api.ErrRange)
			}
		}
	}
}

// P11.4: several Bad blocks, and cartridges that cannot be written
func TestReadSeveralBad(t *testing.T) {
	for _, x := range []struct {
		letters string
		head, n int
		want    string
		e       api.Errno
	}{
		{"aBCd", 0, 4, "a", api.ErrMedia}, {"aBCd", 1, 3, "", api.ErrMedia}, {"aBCd", 2, 2, "", api.ErrMedia}, {"aBCd", 3, 1, "d", api.OK}, {"aBCd", 0, 1, "a", api.OK},
		{"aBcD", 2, 2, "c", api.ErrMedia}, {"MMMM", 0, 4, "", api.ErrMedia}, {"mMmM", 0, 3, "m", api.ErrMedia}, {"mmmm", 0, 4, "mmmm", api.OK}, {"ABCd", 3, 1, "d", api.OK},
	} {
		for _, flags := range []api.Cartridge{{}, {Locked: true}, {WriteOnce: true}} {
			c := holding(geometry(2, 3), x.letters)
			c.Locked, c.WriteOnce = flags.Locked, flags.WriteOnce
			m := model()
			m.CleanEvery, m.CartridgeLife = 1, 1
			if got := try(t, read(x.n), m, ready(x.head), c); got.e != x.e || text(got.l) != x.want {
				t.Errorf("Read of %d from %d of %s: %s", x.n, x.head, x.letters, got)
			}
		}
	}
}

// P11.4: all numbers from all heads on small tapes, with all sets of Bad blocks
func TestAllReads(t *testing.T) {
	for _, g := range []api.Geometry{geometry(1, 6), geometry(2, 3), geometry(3, 2), geometry(6, 1)} {
		for set := range 1 << 6 {
			letters := []byte("amzkby")
			for i := range letters {
				if set>>i&1 == 1 {
					letters[i] &^= 0x20
				}
			}
			for n := range 7 {
				c := holding(g, string(letters[:n]))
				for head := 0; head <= n; head++ {
					for count := -1; count <= n+1; count++ {
						try(t, read(count), model(), ready(head), c)
					}
				}
			}
		}
	}
}

// P11.4: great tapes
func TestGreatReads(t *testing.T) {
	var r random
	for _, g := range []api.Geometry{geometry(32, 128), geometry(1, 4096)} {
		for range 10 {
			c := holding(g, strings.Repeat("m", 4096))
			c.Blocks[r.below(4096)].Bad = true
			head := r.below(4096)
			for _, n := range []int{1, 128, 129, 4096 - head - 1, 4096 - head, 4096 - head + 1} {
				try(t, read(n), model(), ready(head), c)
			}
		}
		try(t, read(4096), model(), ready(0), holding(g, strings.Repeat("a", 4096)))
	}
}
