package cartridge_test

import (
	"bytes"
	"fmt"
	"math"
	"math/big"
	"regexp"
	"slices"
	"strings"
	"testing"

	"tapearchive/api"
	"tapearchive/cartridge"
	"tapearchive/serpentine"
)

// What the functions must return, computed block by block, and the cartridges that the tests try.

// random is a sequence of numbers that is the same in each run.
type random uint64

// number returns the next number, of 64 bits.
func (r *random) number() uint64 {
	*r = *r*6364136223846793005 + 1442695040888963407
	x := uint64(*r)
	return (x ^ x>>33) * 0xFF51AFD7ED558CCD
}

// below returns the next number, from 0 to n - 1.
func (r *random) below(n int) int { return int(r.number() >> 1 % uint64(n)) }

// letters returns n letters for blocks, all of them among these.
func (r *random) letters(n int, among string) string {
	b := make([]byte, n)
	for i := range b {
		b[i] = among[r.below(len(among))]
	}
	return string(b)
}

// blocks returns a block for each letter: m and M are marks, any other letter stands for data, of one byte or more. A capital letter is Bad.
func blocks(letters string) []api.Block {
	var l []api.Block
	for _, letter := range []byte(letters) {
		lower := letter | 0x20
		b := api.Block{Bad: letter != lower}
		if lower == 'm' {
			b.Mark = true
		} else {
			b.Data = bytes.Repeat([]byte{lower}, sizeOf(lower))
		}
		l = append(l, b)
	}
	return l
}

// sizeOf returns the number of bytes of the data for a letter: 1 for a, 64 for z.
func sizeOf(letter byte) int {
	switch {
	case letter < 'a' || letter > 'z': // no letter, in a message
		return 0
	case letter == 'y':
		return 63
	case letter == 'z':
		return 64
	}
	return int(letter-'a') + 1
}

// text returns the letters of blocks; a block that no letter stands for is written as ?.
func text(l []api.Block) string {
	s := ""
	for _, b := range l {
		letter := "m"
		if len(b.Data) > 0 {
			letter = string(b.Data[:1])
		}
		if b.Bad {
			letter = strings.ToUpper(letter)
		}
		if !sameBlocks([]api.Block{b}, blocks(letter)) {
			letter = "?"
		}
		s += letter
	}
	return s
}

// geometry returns one with this capacity, in one wrap.
func geometry(capacity int) api.Geometry {
	return api.Geometry{Wraps: 1, Length: capacity, Step: 1, Turn: 5, Jump: 3, Stream: 2}
}

// holding returns a cartridge with this capacity and these blocks, whose other numbers are all different.
func holding(capacity int, letters string) api.Cartridge {
	return api.Cartridge{Barcode: "TAPE01", Geometry: geometry(capacity), Blocks: blocks(letters), Epoch: 7, Loads: 12, Passes: 3456}
}

// once returns such a cartridge that is WriteOnce.
func once(capacity int, letters string) api.Cartridge {
	c := holding(capacity, letters)
	c.WriteOnce = true
	return c
}

// locked returns such a cartridge that is Locked.
func locked(capacity int, letters string) api.Cartridge {
	c := holding(capacity, letters)
	c.Locked = true
	return c
}

// cloned returns the same cartridge in memory of its own.
func cloned(c api.Cartridge) api.Cartridge {
	c.Blocks = clonedBlocks(c.Blocks)
	return c
}

// clonedBlocks returns the same blocks in memory of their own.
func clonedBlocks(l []api.Block) []api.Block {
	list := slices.Clone(l)
	for i := range list {
		list[i].Data = bytes.Clone(list[i].Data)
	}
	return list
}

// sameBlocks reports whether two lists of blocks are equal; nil and empty lists are.
func sameBlocks(a, b []api.Block) bool {
	return slices.EqualFunc(a, b, func(x, y api.Block) bool {
		return x.Mark == y.Mark && x.Bad == y.Bad && bytes.Equal(x.Data, y.Data)
	})
}

// same reports whether two cartridges are equal.
func same(a, b api.Cartridge) bool {
	return sameBlocks(a.Blocks, b.Blocks) && sameButBlocks(a, b)
}

// sameButBlocks reports whether all fields of two cartridges but their blocks are equal.
func sameButBlocks(a, b api.Cartridge) bool {
	return a.Barcode == b.Barcode && a.Geometry == b.Geometry && a.WriteOnce == b.WriteOnce && a.Locked == b.Locked && a.Epoch == b.Epoch && a.Loads == b.Loads && a.Passes == b.Passes
}

// name names a cartridge in a message.
func name(c api.Cartridge) string {
	flags := ""
	if c.WriteOnce {
		flags += " write-once"
	}
	if c.Locked {
		flags += " locked"
	}
	return fmt.Sprintf("%q %+v%s epoch %d loads %d passes %d: %s", c.Barcode, c.Geometry, flags, c.Epoch, c.Loads, c.Passes, text(c.Blocks))
}

var barcode = regexp.MustCompile(`\A[0-9A-Z]{1,24}\z`)

// blockIsValid reports whether a block is valid.
func blockIsValid(b api.Block) bool {
	return b.Mark && len(b.Data) == 0 || !b.Mark && len(b.Data) > 0 && len(b.Data) < 65
}

// isValid reports whether a cartridge is valid.
func isValid(c api.Cartridge) bool {
	for _, b := range c.Blocks {
		if !blockIsValid(b) {
			return false
		}
	}
	for _, n := range []int{c.Epoch, c.Loads, c.Passes} {
		if n < 0 || n >= 1<<50+1 {
			return false
		}
	}
	return barcode.MatchString(c.Barcode) && serpentine.Valid(c.Geometry) && len(c.Blocks) <= serpentine.Capacity(c.Geometry)
}

// check is a condition under which a call fails, and its error.
type check struct {
	fails bool
	e     api.Errno
}

// first returns the error of the first check that fails.
func first(checks []check) api.Errno {
	for _, c := range checks {
		if c.fails {
			return c.e
		}
	}
	return api.OK
}

// written returns what Write returns.
func written(c api.Cartridge, at int, l []api.Block) (api.Cartridge, api.Errno) {
	end := len(c.Blocks)
	checks := []check{{!isValid(c), api.ErrInvalid}}
	for _, b := range l {
		checks = append(checks, check{!blockIsValid(b), api.ErrInvalid}, check{b.Bad, api.ErrInvalid})
	}
	checks = append(checks,
		check{c.Locked, api.ErrProtected},
		check{at < 0, api.ErrRange},
		check{at > end, api.ErrRange},
		check{c.WriteOnce && at < end, api.ErrProtected},
		check{at+len(l) > serpentine.Capacity(c.Geometry), api.ErrFull})
	if e := first(checks); e != api.OK {
		return api.Cartridge{}, e
	}
	c = cloned(c)
	for i, b := range l {
		if i == 0 {
			c.Blocks = slices.Delete(c.Blocks, at, end)
		}
		c.Blocks = append(c.Blocks, api.Block{Mark: b.Mark, Data: bytes.Clone(b.Data)})
	}
	return c, api.OK
}

// read returns what Read returns.
func read(c api.Cartridge, s api.Span) ([]api.Block, api.Errno) {
	if e := first([]check{{!isValid(c), api.ErrInvalid}, {s.From < 0, api.ErrRange}, {s.Count < 0, api.ErrRange}}); e != api.OK {
		return nil, e
	}
	var l []api.Block
	for n := 0; n < s.Count; n++ {
		if s.From >= len(c.Blocks)-n {
			return l, api.ErrRange
		}
		b := c.Blocks[s.From+n]
		if b.Bad {
			return l, api.ErrMedia
		}
		l = append(l, b)
	}
	return l, api.OK
}

// marks returns what Marks returns.
func marks(c api.Cartridge, at, n int) (int, api.Errno) {
	if e := first([]check{{!isValid(c), api.ErrInvalid}, {at < 0, api.ErrRange}, {at > len(c.Blocks), api.ErrRange}, {n < 0, api.ErrRange}}); e != api.OK {
		return 0, e
	}
	for n > 0 {
		if at == len(c.Blocks) {
			return 0, api.ErrNotFound
		}
		if b := c.Blocks[at]; b.Mark && !b.Bad {
			n--
		}
		at++
	}
	return at, api.OK
}

// erased returns what Erase returns.
func erased(c api.Cartridge) (api.Cartridge, api.Errno) {
	if e := first([]check{{!isValid(c), api.ErrInvalid}, {c.Locked, api.ErrProtected}, {c.WriteOnce, api.ErrProtected}, {c.Epoch == 1<<50, api.ErrRange}}); e != api.OK {
		return api.Cartridge{}, e
	}
	c.Blocks, c.Epoch = nil, c.Epoch+1
	return c, api.OK
}

// damaged returns what Damage returns.
func damaged(c api.Cartridge, s api.Span) api.Cartridge {
	if !isValid(c) {
		return api.Cartridge{}
	}
	from := big.NewInt(int64(s.From))
	behind := new(big.Int).Add(from, big.NewInt(int64(s.Count)))
	c = cloned(c)
	for i := range c.Blocks {
		if n := big.NewInt(int64(i)); n.Cmp(from) >= 0 && n.Cmp(behind) < 0 {
			c.Blocks[i].Bad = true
		}
	}
	return c
}

// extremes are ints that are far too small, or far too great.
func extremes() []int {
	return []int{math.MinInt, math.MinInt + 1, math.MinInt + 3, math.MinInt / 2, -1 << 32, -4096, 4097, 1 << 32, 1 << 62, math.MaxInt / 2, math.MaxInt - 3, math.MaxInt - 1, math.MaxInt}
}

// invalidBlocks are blocks that are not valid, each by one condition alone.
func invalidBlocks() []api.Block {
	var l []api.Block
	for _, bad := range []bool{false, true} {
		for _, n := range []int{1, 2, 63, 64, 65} {
			l = append(l, api.Block{Mark: true, Bad: bad, Data: make([]byte, n)})
		}
		for _, data := range [][]byte{nil, {}, make([]byte, 65), make([]byte, 66), make([]byte, 128), make([]byte, 256+64)} {
			l = append(l, api.Block{Bad: bad, Data: data})
		}
	}
	return l
}

// invalid returns cartridges that are not valid, each by one condition alone.
func invalid() []api.Cartridge {
	var list []api.Cartridge
	add := func(change func(c *api.Cartridge)) {
		c := holding(6, "ambz")
		change(&c)
		list = append(list, c)
	}
	for _, s := range []string{"", "ABCDEFGHIJKLMNOPQRSTUVWXY", "a", "TAPE-1", "TAPE 1", "\x00", "É", "TAPE1\n", "tape1"} {
		add(func(c *api.Cartridge) { c.Barcode = s })
	}
	for _, g := range []api.Geometry{{}, {Wraps: 0, Length: 6}, {Wraps: 33, Length: 1}, {Wraps: -1, Length: -6}, {Wraps: 1, Length: 0}, {Wraps: 1, Length: -1}, {Wraps: 1, Length: 4097}, {Wraps: 32, Length: 129}, {Wraps: 1, Length: 6, Step: -1}, {Wraps: 1, Length: 6, Turn: 1000001}, {Wraps: 1, Length: 6, Jump: math.MinInt}, {Wraps: 1, Length: 6, Stream: math.MaxInt}, {Wraps: math.MaxInt, Length: math.MaxInt}} {
		add(func(c *api.Cartridge) { c.Geometry = g })
	}
	for _, b := range invalidBlocks() {
		for at := range 5 {
			add(func(c *api.Cartridge) { c.Blocks = slices.Insert(c.Blocks, at, b) })
		}
	}
	for _, n := range []int{math.MinInt, -1 << 50, -1, 1<<50 + 1, 1 << 51, math.MaxInt} {
		add(func(c *api.Cartridge) { c.Epoch = n })
		add(func(c *api.Cartridge) { c.Loads = n })
		add(func(c *api.Cartridge) { c.Passes = n })
	}
	for _, n := range []int{7, 8, 100} {
		add(func(c *api.Cartridge) { c.Blocks = blocks(strings.Repeat("m", n)) })
	}
	add(func(c *api.Cartridge) { c.Geometry = geometry(3) })
	add(func(c *api.Cartridge) { *c = api.Cartridge{} })
	for _, c := range slices.Clone(list) {
		c.Locked = true
		list = append(list, c)
		c.WriteOnce = true
		list = append(list, c)
	}
	return list
}

// TestReference checks what the other tests rely on.
func TestReference(t *testing.T) {
	for _, letters := range []string{"", "m", "M", "amczM", "abcdefghijklmnopqrstuvwxyz", "ABCDEFGHIJKLMNOPQRSTUVWXYZ"} {
		l := blocks(letters)
		if text(l) != letters || !sameBlocks(clonedBlocks(l), l) {
			t.Errorf("%s has become %s", letters, text(l))
		}
		for _, b := range l {
			if !blockIsValid(b) {
				t.Errorf("%+v is not valid", b)
			}
		}
	}
	if l := blocks("aMz"); l[0].Bad || l[0].Mark || string(l[0].Data) != "a" || !l[1].Bad || !l[1].Mark || l[1].Data != nil || len(l[2].Data) != 64 {
		t.Errorf("%+v", l)
	}
	if c := holding(4, "am"); !isValid(c) || same(c, holding(4, "aM")) || same(c, holding(4, "bm")) || same(c, holding(5, "am")) || same(c, locked(4, "am")) || same(c, once(4, "am")) || !same(c, cloned(c)) {
		t.Error("the cartridges of the tests are not valid, or not told apart")
	}
}

// checkNothing checks that all functions treat a cartridge as not valid, whatever else is wrong.
func checkNothing(t *testing.T, c api.Cartridge, numbers []int) {
	t.Helper()
	if isValid(c) || cartridge.Valid(c) {
		t.Fatalf("%s: valid", name(c))
	}
	if n := cartridge.Free(c); n != 0 {
		t.Errorf("%s: %d blocks are free", name(c), n)
	}
	if d, e := cartridge.Erase(c); e != api.ErrInvalid || !same(d, api.Cartridge{}) {
		t.Errorf("%s: erased to %s, %d", name(c), name(d), e)
	}
	for _, a := range numbers {
		for _, l := range [][]api.Block{nil, blocks("a"), blocks("A"), blocks("abcdefghijk"), {{}}} {
			if d, e := cartridge.Write(c, a, l); e != api.ErrInvalid || !same(d, api.Cartridge{}) {
				t.Errorf("%s: Write of %s at %d: %s, %d", name(c), text(l), a, name(d), e)
			}
		}
		for _, b := range numbers {
			s := api.Span{From: a, Count: b}
			if l, e := cartridge.Read(c, s); e != api.ErrInvalid || len(l) > 0 {
				t.Errorf("%s: Read(%+v): %s, %d", name(c), s, text(l), e)
			}
			if n, e := cartridge.Marks(c, a, b); e != api.ErrInvalid || n != 0 {
				t.Errorf("%s: Marks(%d, %d): %d, %d", name(c), a, b, n, e)
			}
			if d := cartridge.Damage(c, s); !same(d, api.Cartridge{}) {
				t.Errorf("%s: Damage(%+v): %s", name(c), s, name(d))
			}
		}
	}
}

// The sentences on cartridges that are not valid: by each condition alone, with every function
func TestInvalidCartridges(t *testing.T) {
	for _, c := range invalid() {
		before := cloned(c)
		checkNothing(t, c, []int{math.MinInt, -1, 0, 1, 2, 4, 5, 6, 7, 100, math.MaxInt})
		if !same(c, before) {
			t.Errorf("%s has become %s", name(before), name(c))
		}
	}
}
