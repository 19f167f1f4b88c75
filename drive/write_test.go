package drive_test

import (
	"strings"
	"testing"

	"tapearchive/api"
)

// P11.5: before and at the end of data, as many blocks as fit and one more
func TestWrite(t *testing.T) {
	c := holding(chapter(), "abcdefghijkl") // 12 blocks, of which 9 and 10 are on both sides of a turn
	for _, x := range []struct {
		head         int
		l, want      string
		time, passes int
	}{
		{12, "m", "abcdefghijklm", 2, 100}, {12, "yz", "abcdefghijklyz", 4, 200}, {12, "mmmmmmmm", "abcdefghijklmmmmmmmm", 16, 800},
		{0, "z", "z", 2, 100}, {0, "zzzzzzzzzzz", "zzzzzzzzzzz", 22 + 8, 800}, {0, strings.Repeat("m", 20), strings.Repeat("m", 20), 40 + 8, 100},
		{9, "z", "abcdefghiz", 2, 0}, {9, "zm", "abcdefghizm", 4 + 8, 100}, {8, "zmy", "abcdefghzmy", 6 + 8, 0}, {10, "z", "abcdefghijz", 2, 100}, {11, "z", "abcdefghijkz", 2, 100}, {11, "zmy", "abcdefghijkzmy", 6, 300},
	} {
		want := result{d: ready(x.head + len(x.l)), c: c, time: x.time}
		want.d.Passes += x.passes
		want.d.Since += x.passes
		want.c.Passes += x.passes
		want.c.Blocks = blocks(x.want)
		if got := try(t, write(blocks(x.l)), model(), ready(x.head), c); !got.equal(want) {
			t.Errorf("Write of %s at %d: %s, want %s", x.l, x.head, got, want)
		}
	}
	for head := 0; head <= 12; head++ {
		for n := 21 - head; n <= 23; n++ {
			expect(t, write(blocks(strings.Repeat("m", n))), model(), ready(head), c, api.ErrFull)
		}
		if got := try(t, write(blocks(strings.Repeat("m", 20-head))), model(), ready(head), c); got.e != api.OK || got.d.Head != 20 || len(got.c.Blocks) != 20 {
			t.Errorf("a full cartridge from %d on: %s", head, got)
		}
	}
	full := holding(chapter(), strings.Repeat("m", 20))
	expect(t, write(blocks("a")), model(), ready(20), full, api.ErrFull)
	expect(t, write(blocks("aa")), model(), ready(19), full, api.ErrFull)
	expect(t, write(nil), model(), ready(20), full, api.ErrInvalid)
}

// P11.5: no blocks, and blocks that are not valid or Bad, at each place among others
func TestUnfitBlocks(t *testing.T) {
	c := holding(geometry(2, 3), "amz")
	for head := range 4 {
		expect(t, write(nil), model(), ready(head), c, api.ErrInvalid)
		expect(t, write([]api.Block{}), model(), ready(head), c, api.ErrInvalid)
		for _, b := range []api.Block{{}, {Data: []byte{}}, {Data: make([]byte, 65)}, {Mark: true, Data: []byte{1}}, {Bad: true}, blocks("A")[0], blocks("Z")[0], blocks("M")[0]} {
			for _, others := range []string{"", "b", "bm", "bcmdefgh"} {
				for at := 0; at <= len(others); at++ {
					l := append(blocks(others[:at]), b)
					l = append(l, blocks(others[at:])...)
					expect(t, write(l), model(), ready(head), c, api.ErrInvalid)
				}
			}
		}
	}
	for _, b := range []api.Block{{Data: []byte{0}}, {Data: make([]byte, 64)}, {Mark: true}, {Mark: true, Data: []byte{}}} {
		if got := try(t, write([]api.Block{b}), model(), ready(3), c); got.e != api.OK || !sameBlocks(got.c.Blocks[3:], []api.Block{b}) {
			t.Errorf("%+v: %s", b, got)
		}
	}
}

// P11.5, P11.6: Passes and CartridgeLife of 0, equal, one less and one more
func TestWorn(t *testing.T) {
	for _, x := range []struct {
		life, passes int
		e            api.Errno
	}{
		{0, 0, api.OK}, {0, 1, api.OK}, {0, 1 << 50, api.OK},
		{1, 0, api.OK}, {1, 1, api.ErrProtected}, {1, 2, api.ErrProtected},
		{500, 499, api.OK}, {500, 500, api.ErrProtected}, {500, 501, api.ErrProtected}, {500, 0, api.OK}, {500, 1 << 50, api.ErrProtected},
		{1 << 50, 1<<50 - 1, api.OK}, {1 << 50, 1 << 50, api.ErrProtected}, {1<<50 - 1, 1 << 50, api.ErrProtected},
	} {
		m := model()
		m.CartridgeLife = x.life
		c := holding(geometry(2, 3), "amz")
		c.Passes = x.passes
		for _, head := range []int{0, 2, 3} {
			if got := try(t, write(blocks("b")), m, ready(head), c); got.e != x.e {
				t.Errorf("a life of %d, %d passes: %s", x.life, x.passes, got)
			}
		}
		if x.e != api.OK {
			for _, l := range [][]api.Block{nil, blocks("A"), {{}}, blocks("mmmmmmm")} {
				expect(t, write(l), m, ready(1), c, api.ErrProtected)
			}
		}
		for _, o := range []operation{unload(), seek(0), read(1)} { // which do not ask whether the cartridge is worn
			if got := try(t, o, m, ready(2), c); got.e != api.OK {
				t.Errorf("a life of %d, %d passes: %s: %s", x.life, x.passes, o.name, got)
			}
		}
	}
}

// P11.5: a cartridge that becomes worn by a motion is written no more.
func TestWearingOut(t *testing.T) {
	m := model()
	m.CartridgeLife = 1000
	c := holding(chapter(), strings.Repeat("a", 10))
	c.Passes = 0
	r := try(t, write(blocks("m")), m, ready(10), c) // 100 passes
	r = try(t, seek(10), m, r.d, r.c)                // and 100
	r = try(t, write(blocks("mm")), m, r.d, r.c)     // and 200
	r = try(t, seek(4), m, r.d, r.c)                 // from the position 7 to 4: and 300
	r = try(t, seek(7), m, r.d, r.c)                 // and 300
	if r.e != api.OK || r.c.Passes != 1000 {
		t.Fatalf("%s", r)
	}
	expect(t, write(blocks("m")), m, r.d, r.c, api.ErrProtected)
	m.CartridgeLife++
	if r = try(t, write(blocks("m")), m, r.d, r.c); r.e != api.OK || r.c.Passes != 1100 {
		t.Errorf("%s", r)
	}
	expect(t, write(blocks("m")), m, r.d, r.c, api.ErrProtected)
}

// P11.5: cartridges that are Locked, and that are WriteOnce before and at the end of data
func TestProtected(t *testing.T) {
	for head := range 5 {
		for _, l := range []string{"b", "bm", "bmb"} {
			c := holding(geometry(2, 3), "amzm")
			c.WriteOnce = true
			want := api.ErrProtected
			if head == 4 {
				want = api.OK
				if len(l) > 2 {
					want = api.ErrFull
				}
			}
			if got := try(t, write(blocks(l)), model(), ready(head), c); got.e != want {
				t.Errorf("write-once, %s at %d: %s", l, head, got)
			}
			c.Locked = true
			expect(t, write(blocks(l)), model(), ready(head), c, api.ErrProtected)
			c.WriteOnce = false
			expect(t, write(blocks(l)), model(), ready(head), c, api.ErrProtected)
			expect(t, write(blocks(l+"B")), model(), ready(head), c, api.ErrInvalid)
		}
	}
}

// P11.5: all heads of small tapes, with each flag and all numbers of blocks
func TestAllWrites(t *testing.T) {
	for _, g := range []api.Geometry{geometry(1, 6), geometry(2, 3), geometry(3, 2), geometry(6, 1), geometry(1, 1), chapter()} {
		capacity := g.Wraps * g.Length
		for n := 0; n <= capacity; n++ {
			for flags := range 4 {
				c := holding(g, "aMbzmCaMbzmCaMbzmCaMbzmC"[:n])
				c.WriteOnce, c.Locked = flags&1 == 1, flags&2 == 2
				for head := 0; head <= n; head++ {
					for count := 0; count <= capacity-head+1; count++ {
						try(t, write(blocks("mzxmywvvmzxmywvvmzxmywvv"[:count])), model(), ready(head), c)
					}
				}
			}
		}
	}
}

// P11.5: great tapes
func TestGreatWrites(t *testing.T) {
	var r random
	for _, g := range []api.Geometry{geometry(32, 128), geometry(1, 4096)} {
		c := holding(g, r.letters(4000, "amzMZ"))
		for _, head := range []int{0, 1, 2000, 3999, 4000} {
			for _, n := range []int{1, 96, 97, 128, 4095 - head, 4096 - head, 4097 - head} {
				try(t, write(blocks(r.letters(n, "amz"))), model(), ready(head), c)
			}
		}
	}
}
