package drive_test

import (
	"strings"
	"testing"

	"tapearchive/api"
	"tapearchive/drive"
	"tapearchive/serpentine"
)

// sums are the times and the passes that a sequence of operations must have, from the layers below.
type sums struct{ time, passes int }

// shelf is a sequence of operations of one drive with several cartridges.
type shelf struct {
	t          *testing.T
	m          api.DriveModel
	d          api.Drive
	cartridges []api.Cartridge
	held       int // the cartridge in the drive
	spent      int // the sum of the times that the operations return
	want       sums
}

// do performs an operation of the cartridge in the drive, which must succeed, apart from Bad blocks.
func (s *shelf) do(o operation) result {
	s.t.Helper()
	before := cloned(s.cartridges[s.held])
	r := try(s.t, o, s.m, s.d, s.cartridges[s.held])
	if r.e != api.OK && r.e != api.ErrMedia {
		s.t.Fatalf("%s: %s", o.name, r)
	}
	// P11.8: only Write changes the blocks of a cartridge.
	if !strings.HasPrefix(o.name, "Write") && o.name != "Clean" && !sameBlocks(r.c.Blocks, before.Blocks) {
		s.t.Errorf("%s has changed %s to %s", o.name, text(before.Blocks), text(r.c.Blocks))
	}
	s.spent += r.time
	s.d = r.d
	if o.name != "Clean" {
		s.cartridges[s.held] = r.c
	}
	return r
}

// motion adds what a motion of the head costs: the time of going, or that of reading or writing.
func (s *shelf) motion(to int, streams bool) {
	g := s.cartridges[s.held].Geometry
	s.want.passes += serpentine.Passes(g, s.d.Head, to)
	if streams {
		s.want.time += serpentine.Read(g, api.Span{From: s.d.Head, Count: to - s.d.Head})
	} else {
		s.want.time += serpentine.Locate(g, s.d.Head, to)
	}
}

// step performs a random operation with the cartridge in the drive.
func (s *shelf) step(r *random) {
	s.t.Helper()
	c := s.cartridges[s.held]
	end, free := len(c.Blocks), c.Geometry.Wraps*c.Geometry.Length-len(c.Blocks)
	switch r.below(4) {
	case 0:
		to := r.below(end + 1)
		s.motion(to, false)
		s.do(seek(to))
	case 1:
		if end > s.d.Head {
			n := 1 + r.below(end-s.d.Head)
			rest := c.Blocks[s.d.Head : s.d.Head+n]
			good, _, bad := strings.Cut(strings.Map(func(letter rune) rune {
				if letter < 'a' {
					return '!'
				}
				return letter
			}, text(rest)), "!")
			s.motion(s.d.Head+len(good), true)
			got := s.do(read(n))
			if text(got.l) != good || (got.e == api.ErrMedia) != bad {
				s.t.Errorf("%s, but %s has been read", text(rest), text(got.l))
			}
		}
	case 2, 3:
		if r.below(3) > 0 && s.d.Head < end { // mostly at the end of data
			s.motion(end, false)
			s.do(seek(end))
		}
		if n := min(end-s.d.Head+free, 9); n > 0 {
			l, at := r.letters(1+r.below(n), "amzk"), s.d.Head
			s.motion(at+len(l), true)
			s.do(write(blocks(l)))
			s.readAgain(at, l)
		}
	}
}

// readAgain checks that what was written at a block is read again after a Seek to it (P11.9).
func (s *shelf) readAgain(at int, l string) {
	s.t.Helper()
	s.motion(at, false)
	s.do(seek(at))
	s.motion(at+len(l), true)
	if got := s.do(read(len(l))); text(got.l) != l || got.e != api.OK {
		s.t.Errorf("%s at %d is read as %s", l, at, got)
	}
	if got := len(s.cartridges[s.held].Blocks); got != at+len(l) {
		s.t.Errorf("%s at %d: the end of data is %d", l, at, got)
	}
}

// P11.7, P11.8, P11.9: sequences of operations with several cartridges one after another
func TestSequences(t *testing.T) {
	var r random
	for round := range 40 {
		m := api.DriveModel{Load: r.below(1000), Unload: r.below(1000), Clean: r.below(1000), CleanEvery: r.below(2) * (1 + r.below(5000))}
		s := shelf{t: t, m: m, d: api.Drive{Loads: r.below(9), Passes: r.below(9999), Since: 0}}
		for i, g := range []api.Geometry{chapter(), geometry(3, 7), geometry(1, 50)} {
			c := holding(g, r.letters(r.below(12), "amzkB"))
			c.Barcode = "TAPE0" + string(rune('1'+i))
			s.cartridges = append(s.cartridges, c)
		}
		loads, passes := s.d.Loads, s.d.Passes
		before := append([]api.Cartridge{}, s.cartridges...)
		mounts := 6 + round%5
		for range mounts {
			if drive.Due(s.m, s.d) {
				s.want.time += m.Clean
				s.do(clean())
			}
			s.held = r.below(3)
			s.want.time += m.Load
			s.do(load())
			for range r.below(12) {
				s.step(&r)
			}
			s.motion(0, false)
			s.want.time += m.Unload
			s.do(unload())
		}
		worn, mounted := 0, 0
		for i, c := range s.cartridges {
			worn += c.Passes - before[i].Passes
			mounted += c.Loads - before[i].Loads
		}
		if s.spent != s.want.time {
			t.Errorf("the time %d, want %d", s.spent, s.want.time)
		}
		if s.d.Passes-passes != s.want.passes || worn != s.want.passes || worn == 0 {
			t.Errorf("the passes of the drive have increased by %d, those of the cartridges by %d, want %d", s.d.Passes-passes, worn, s.want.passes)
		}
		if s.d.Loads-loads != mounts || mounted != mounts {
			t.Errorf("%d loads of the drive and %d of the cartridges, want %d", s.d.Loads-loads, mounted, mounts)
		}
	}
}

// P11.8: Since is increased as Passes is, and by Clean becomes 0.
func TestSince(t *testing.T) {
	var r random
	s := shelf{t: t, m: model(), cartridges: []api.Cartridge{holding(geometry(3, 7), "amzkamzkamzk")}}
	cleaned := 0
	for range 50 {
		s.do(load())
		for range r.below(6) {
			s.step(&r)
		}
		s.do(unload())
		if s.d.Since != s.d.Passes-cleaned {
			t.Errorf("%+v, cleaned at %d", s.d, cleaned)
		}
		if r.below(4) == 0 {
			s.do(clean())
			cleaned = s.d.Passes
		}
	}
	if cleaned == 0 {
		t.Error("never cleaned")
	}
}

// P11.9: what Read returns are the blocks from the Head on, in parts as at once, and reading in parts costs what the parts cost.
func TestReadInParts(t *testing.T) {
	var r random
	for range 200 {
		n := 1 + r.below(20)
		c := holding(chapter(), r.letters(n, "amzkby"))
		head := r.below(n)
		all, d, time := "", ready(head), 0
		for d.Head < n {
			got := try(t, read(1+r.below(n-d.Head)), model(), d, c)
			if got.e != api.OK {
				t.Fatalf("%s", got)
			}
			time += got.time
			if d.Head > 0 && d.Head%10 == 0 && d.Head > head {
				time += 3 + 5 // P9.8: the part begins a wrap
			}
			all += text(got.l)
			d, c = got.d, got.c
		}
		if want := text(c.Blocks[head:]); all != want {
			t.Errorf("%s is read as %s", want, all)
		}
		if want := serpentine.Read(chapter(), api.Span{From: head, Count: n - head}); time != want {
			t.Errorf("%d to %d in the time %d, want %d", head, n, time, want)
		}
	}
}
