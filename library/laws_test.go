package library_test

import (
	"maps"
	"slices"
	"strings"
	"testing"

	"tapearchive/api"
	"tapearchive/drive"
	"tapearchive/library"
	"tapearchive/robot"
)

// shelf is a library, and what must be on its cartridges by what was done.
type shelf struct {
	t        *testing.T
	l        api.Library
	contents map[string]string
	done     map[string]int // how often each function has succeeded
}

// check checks that the library is valid, which cartridges there are, and their blocks and epochs.
func (s *shelf) check(what string) {
	s.t.Helper()
	if !library.Valid(s.l) {
		s.t.Fatalf("%s: not valid: %s", what, name(s.l))
	}
	if len(s.l.Cartridges) != len(s.contents) {
		s.t.Fatalf("%s: %d cartridges, not %d: %s", what, len(s.l.Cartridges), len(s.contents), name(s.l))
	}
	for _, c := range s.l.Cartridges {
		if want, is := s.contents[c.Barcode]; !is || text(c.Blocks) != want || c.Epoch != 3+int(c.Barcode[0]-'A') {
			s.t.Fatalf("%s: %s, want %s", what, tapeName(c), want)
		}
	}
}

// do does something, and checks that the library stays as it is with an error; it returns the result.
func (s *shelf) do(o operation) result {
	s.t.Helper()
	got := try(s.t, o, s.l)
	if got.e == api.OK || got.e == api.ErrMedia {
		s.l = got.l
		s.done[strings.Fields(o.name)[0]]++
	} else {
		s.done["errors"]++
	}
	return got
}

// change does one of the functions, as the numbers want, and notes what it must have changed.
func (s *shelf) change(r *random, letters string) {
	letter := string(letters[r.below(len(letters))])
	number := r.below(len(s.l.Drives))
	switch r.below(12) {
	case 0, 1, 2:
		s.do(mount(letter, number))
	case 3:
		s.do(dismount(number))
	case 4, 5:
		end := len(held(s.l, number).Blocks)
		s.do(read(number, api.Span{From: r.below(end + 1), Count: r.below(end + 2)}))
	case 6, 7:
		more := strings.Repeat(string("abmz"[r.below(4)]), 1+r.below(2))
		barcode := s.l.Drives[number].Barcode
		if got := s.do(appending(number, blocks(more))); got.e == api.OK {
			if got.first != len(s.contents[barcode]) {
				s.t.Errorf("the first block is %d, not %d", got.first, len(s.contents[barcode]))
			}
			s.contents[barcode] += more
		}
	case 8:
		c := tape(letter)
		c.Blocks = nil
		if got := s.do(insert(c)); got.e == api.OK {
			s.contents[letter] = ""
		}
	case 9:
		if r.below(4) == 0 {
			if got := s.do(remove(letter)); got.e == api.OK {
				if text(got.c.Blocks) != s.contents[letter] {
					s.t.Errorf("what was removed has %s, not %s", text(got.c.Blocks), s.contents[letter])
				}
				delete(s.contents, letter)
			}
		}
	case 10:
		if r.below(4) == 0 {
			s.do(breaking([]api.Element{driveAt(number), hand()}[r.below(2)]))
		}
	case 11:
		if r.below(2) == 0 {
			s.do(service())
		}
	}
}

// readAll reads all that must be on the cartridges again, each in some drive.
func (s *shelf) readAll(r *random) {
	s.do(service())
	for i := range s.l.Drives {
		s.do(dismount(i))
	}
	for _, barcode := range slices.Sorted(maps.Keys(s.contents)) {
		want := s.contents[barcode]
		number := r.below(len(s.l.Drives))
		if s.do(mount(barcode, number)); len(want) == 0 || s.l.Drives[number].Barcode != barcode {
			continue // another one is in the drive that no slot is empty for
		}
		if got := s.do(read(number, api.Span{From: 0, Count: len(want)})); got.e != api.OK || text(got.blocks) != want {
			s.t.Errorf("%s has %s, want %s", barcode, text(got.blocks), want)
		}
		s.done["all"]++
	}
}

// P13.12: sequences of all functions: the library is valid after each of them, only Insert and Remove change which cartridges there are, only Append changes the blocks of one, and what was appended is read again.
func TestSequences(t *testing.T) {
	r := random(7)
	done := map[string]int{}
	for round := range 60 {
		slots, drives := 2+r.below(6), 1+r.below(3)
		l, e := library.New(robotModel(slots, drives), driveModel(), nil)
		if e != api.OK {
			t.Fatal(e)
		}
		l.Drive.CleanEvery, l.Drive.CartridgeLife = 1500*(round%3), 20000*(round%2)
		s := &shelf{t, l, map[string]string{}, done}
		for range 200 {
			s.change(&r, "ABEFGHIJ"[:3+r.below(6)])
			s.check("a sequence")
		}
		s.readAll(&r)
		s.check("at the end")
	}
	for _, function := range []string{"Mount", "Dismount", "Read", "Append", "Insert", "Remove", "Break", "Service", "all", "errors"} {
		if done[function] < 50 {
			t.Errorf("%s has been tried only %d times", function, done[function])
		}
	}
}

// P13.12: what was appended in one drive is read in another one, after other cartridges have been in both.
func TestAppendedIsReadAgain(t *testing.T) {
	l, _ := library.New(robotModel(4, 2), driveModel(), nil)
	for _, letter := range []string{"F", "G", "H"} {
		c := tape(letter)
		c.Blocks = nil
		l = succeed(t, insert(c), l).l
	}
	l = succeed(t, mount("F", 0), l).l
	l = succeed(t, appending(0, blocks("am")), l).l
	l = succeed(t, mount("G", 0), l).l
	l = succeed(t, appending(0, blocks("zzz")), l).l
	l = succeed(t, mount("F", 1), l).l
	l = succeed(t, appending(1, blocks("kbm")), l).l
	l = succeed(t, mount("H", 0), l).l
	l = succeed(t, mount("G", 1), l).l
	l = succeed(t, dismount(0), l).l
	l = succeed(t, mount("F", 0), l).l
	got := succeed(t, read(0, api.Span{From: 0, Count: 5}), l)
	if text(got.blocks) != "amkbm" {
		t.Error(got)
	}
	if got = succeed(t, read(1, api.Span{From: 0, Count: 3}), got.l); text(got.blocks) != "zzz" {
		t.Error(got)
	}
}

// steps is a library in which the functions of the layers 11 and 12 are called one after another, and the sum of their times.
type steps struct {
	t    *testing.T
	l    api.Library
	time int
}

// add adds the time of a step, which must have no error.
func (s *steps) add(time int, e api.Errno) {
	s.t.Helper()
	if e != api.OK && e != api.ErrMedia {
		s.t.Fatalf("a step has the error %d", e)
	}
	s.time += time
}

// pick and put are steps of the robot.
func (s *steps) pick(e api.Element, barcode string) {
	s.t.Helper()
	r, time, errno := robot.Pick(s.l.Model, s.l.Robot, e, barcode)
	s.l.Robot = r
	s.add(time, errno)
}

func (s *steps) put(e api.Element) {
	s.t.Helper()
	r, time, errno := robot.Put(s.l.Model, s.l.Robot, e)
	s.l.Robot = r
	s.add(time, errno)
}

// run is a step of a drive with a cartridge.
func (s *steps) run(number int, barcode string, do func(m api.DriveModel, d api.Drive, c api.Cartridge) (api.Drive, api.Cartridge, int, api.Errno)) {
	s.t.Helper()
	c := byBarcode(s.l, barcode)
	d, tape, time, e := do(s.l.Drive, s.l.Drives[number], *c)
	s.l.Drives[number], *c = d, tape
	s.add(time, e)
}

// dismount makes the steps of Dismount.
func (s *steps) dismount(number int) {
	s.t.Helper()
	barcode := s.l.Drives[number].Barcode
	s.run(number, barcode, drive.Unload)
	s.pick(driveAt(number), barcode)
	s.put(slot(slices.Index(s.l.Robot.Slots, "")))
}

// mount makes the steps of Mount.
func (s *steps) mount(barcode string, number int) {
	s.t.Helper()
	if s.l.Drives[number].State == api.DriveReady {
		s.dismount(number)
	}
	if drive.Due(s.l.Drive, s.l.Drives[number]) {
		d, time, e := drive.Clean(s.l.Drive, s.l.Drives[number])
		s.l.Drives[number] = d
		s.add(time, e)
	}
	from, _ := robot.Find(s.l.Robot, barcode)
	s.pick(from, "")
	s.put(driveAt(number))
	s.run(number, barcode, drive.Load)
}

// P13.4 to P13.7: the times are the sums of those of the functions of the layers 11 and 12 that are called one after another, and the library is what these make of it.
func TestSumsOfSteps(t *testing.T) {
	checked := 0
	placed("ABC", func(text string) {
		l := lib(text)
		compare := func(o operation, do func(s *steps)) {
			got := o.do(l)
			if got.e != api.OK && got.e != api.ErrMedia {
				return
			}
			s := &steps{t, cloned(l), 0}
			do(s)
			if got.time != s.time || !same(got.l, s.l) {
				t.Errorf("%s%s: %s\nbut the steps take %d and lead to %s", name(l), o.name, got, s.time, name(s.l))
			}
			checked++
		}
		for number := range l.Drives {
			barcode := l.Drives[number].Barcode
			compare(dismount(number), func(s *steps) { s.dismount(number) })
			for _, letter := range []string{"A", "B", "C"} {
				compare(mount(letter, number), func(s *steps) {
					if letter != barcode {
						s.mount(letter, number)
					}
				})
			}
			for from := range 5 {
				for count := 1; count <= 5-from; count++ {
					compare(read(number, api.Span{From: from, Count: count}), func(s *steps) {
						s.run(number, barcode, func(m api.DriveModel, d api.Drive, c api.Cartridge) (api.Drive, api.Cartridge, int, api.Errno) {
							return drive.Seek(m, d, c, from)
						})
						s.run(number, barcode, func(m api.DriveModel, d api.Drive, c api.Cartridge) (api.Drive, api.Cartridge, int, api.Errno) {
							d, c, _, time, e := drive.Read(m, d, c, count)
							return d, c, time, e
						})
					})
				}
			}
			compare(appending(number, blocks("x")), func(s *steps) {
				s.run(number, barcode, func(m api.DriveModel, d api.Drive, c api.Cartridge) (api.Drive, api.Cartridge, int, api.Errno) {
					return drive.Seek(m, d, c, 5)
				})
				s.run(number, barcode, func(m api.DriveModel, d api.Drive, c api.Cartridge) (api.Drive, api.Cartridge, int, api.Errno) {
					return drive.Write(m, d, c, blocks("x"))
				})
			})
		}
	})
	if checked < 1000 {
		t.Errorf("only %d calls have been compared", checked)
	}
}
