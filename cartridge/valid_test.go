package cartridge_test

import (
	"math"
	"slices"
	"strings"
	"testing"

	"tapearchive/api"
	"tapearchive/cartridge"
)

// checkBarcode checks Valid and New with a barcode.
func checkBarcode(t *testing.T, s string, valid bool) {
	t.Helper()
	c := holding(4, "am")
	c.Barcode = s
	if got := cartridge.Valid(c); got != valid {
		t.Errorf("the barcode %q: Valid %t", s, got)
	}
	c, e := cartridge.New(s, geometry(4), false)
	if valid && (e != api.OK || c.Barcode != s) || !valid && (e != api.ErrInvalid || !same(c, api.Cartridge{})) {
		t.Errorf("the barcode %q: New %s, %d", s, name(c), e)
	}
}

// P10.1, P10.2: barcodes of all lengths
func TestLengthsOfBarcodes(t *testing.T) {
	for _, letter := range []string{"A", "Z", "0", "9", "M"} {
		for n := range 60 {
			checkBarcode(t, strings.Repeat(letter, n), n >= 1 && n <= 24)
		}
		for _, n := range []int{256, 256 + 1, 256 + 24, 1 << 16, 1<<16 + 24} {
			checkBarcode(t, strings.Repeat(letter, n), false)
		}
	}
	checkBarcode(t, "", false)
	checkBarcode(t, "0", true)
	checkBarcode(t, "ABCDEFGHIJKLMNOPQRSTUVWX", true)
	checkBarcode(t, "ABCDEFGHIJKLMNOPQRSTUVWXY", false)
	checkBarcode(t, "YZ0123456789", true)
}

// P10.1, P10.2: each byte, alone and in each place of longer barcodes
func TestBytesOfBarcodes(t *testing.T) {
	for x := range 256 {
		valid := strings.IndexByte("ABCDEFGHIJKLMNOPQRSTUVWXYZ0123456789", byte(x)) >= 0
		for _, n := range []int{1, 2, 3, 23, 24} {
			for at := range n {
				s := []byte("TAPE0123456789TAPE987654"[:n])
				s[at] = byte(x)
				checkBarcode(t, string(s), valid)
			}
		}
	}
	for _, s := range []string{"É", "Ａ", "TAPE１", "٣", "Ω", "\xff", "A\x00", "tape", "Tape", "TAPe", "A-1", "A_1", "A 1", " A", "A ", "\nA", "A\n", "/", ":", "@", "["} {
		checkBarcode(t, s, false)
	}
}

// P10.1: each kind of block, as the only one, and at each place among others
func TestValidBlocks(t *testing.T) {
	for _, mark := range []bool{false, true} {
		for _, bad := range []bool{false, true} {
			for n := range 140 {
				b := api.Block{Mark: mark, Bad: bad, Data: make([]byte, n)}
				valid := mark && n == 0 || !mark && n >= 1 && n <= 64
				alone := holding(5, "")
				alone.Blocks = []api.Block{b}
				if got := cartridge.Valid(alone); got != valid {
					t.Errorf("the block %+v: Valid %t", b, got)
				}
				for at := range 5 {
					c := holding(5, "amBM")
					c.Blocks = slices.Insert(c.Blocks, at, b)
					if got := cartridge.Valid(c); got != valid {
						t.Errorf("the block %+v at %d: Valid %t", b, at, got)
					}
				}
			}
		}
	}
	for _, c := range []struct {
		b     api.Block
		valid bool
	}{
		{api.Block{Mark: true}, true}, {api.Block{Mark: true, Bad: true}, true}, {api.Block{Mark: true, Data: []byte{}}, true}, {api.Block{Mark: true, Data: []byte{1}}, false},
		{api.Block{}, false}, {api.Block{Data: []byte{}}, false}, {api.Block{Bad: true}, false},
		{api.Block{Data: []byte{0}}, true}, {api.Block{Data: make([]byte, 64)}, true}, {api.Block{Data: make([]byte, 65)}, false}, {api.Block{Data: make([]byte, 64, 65)}, true},
	} {
		one := holding(1, "")
		one.Blocks = []api.Block{c.b}
		if got := cartridge.Valid(one); got != c.valid {
			t.Errorf("the block %+v: Valid %t", c.b, got)
		}
	}
}

// P10.1: as many blocks as the capacity, one more and one less
func TestNumbersOfBlocks(t *testing.T) {
	for _, g := range []api.Geometry{{Wraps: 1, Length: 1}, {Wraps: 1, Length: 7}, {Wraps: 7, Length: 1}, {Wraps: 3, Length: 5, Step: 1, Turn: 1, Jump: 1, Stream: 1}, {Wraps: 32, Length: 128}, {Wraps: 1, Length: 4096}} {
		capacity := g.Wraps * g.Length
		for _, n := range []int{0, 1, capacity - 1, capacity, capacity + 1, capacity + 2, 2 * capacity, 2*capacity + 1, 8192} {
			for _, letter := range []string{"a", "z", "m", "A", "M"} {
				c := api.Cartridge{Barcode: "A", Geometry: g, Blocks: blocks(strings.Repeat(letter, n))}
				if got := cartridge.Valid(c); got != (n <= capacity) {
					t.Errorf("%d blocks with the capacity %d: Valid %t", n, capacity, got)
				}
			}
		}
	}
}

// P10.1: the limits of the counters, alone and two at a time
func TestLimitsOfCounters(t *testing.T) {
	values := append(extremes(), -1<<50, -2, -1, 0, 1, 2, 1<<50-1, 1<<50, 1<<50+1, 1<<51)
	good := func(n int) bool { return n >= 0 && n <= 1<<50 }
	for _, v := range values {
		for _, w := range values {
			for i, counters := range [][3]int{{v, w, 0}, {v, 0, w}, {0, v, w}, {v, w, 1 << 50}} {
				c := holding(4, "am")
				c.Epoch, c.Loads, c.Passes = counters[0], counters[1], counters[2]
				if got := cartridge.Valid(c); got != (good(v) && good(w)) {
					t.Errorf("%d: the counters %d: Valid %t", i, counters, got)
				}
			}
		}
	}
}

// P10.1: the geometry
func TestGeometries(t *testing.T) {
	for field := range 6 {
		for _, v := range append(extremes(), -1, 0, 1, 32, 33, 4095, 4096, 999999, 1000000, 1000001) {
			fields := [6]int{1, 1, 5, 5, 5, 5}
			fields[field] = v
			g := api.Geometry{Wraps: fields[0], Length: fields[1], Step: fields[2], Turn: fields[3], Jump: fields[4], Stream: fields[5]}
			valid := v >= 0 && v <= 1000000
			if field == 0 {
				valid = v >= 1 && v <= 32
			}
			if field == 1 {
				valid = v >= 1 && v <= 4096
			}
			if got := cartridge.Valid(api.Cartridge{Barcode: "A", Geometry: g}); got != valid {
				t.Errorf("%+v: Valid %t", g, got)
			}
			c, e := cartridge.New("A", g, true)
			if valid && (e != api.OK || c.Geometry != g) || !valid && (e != api.ErrRange || !same(c, api.Cartridge{})) {
				t.Errorf("%+v: New %s, %d", g, name(c), e)
			}
		}
	}
}

// P10.1: valid cartridges with each flag, empty and full
func TestValidCartridges(t *testing.T) {
	for _, letters := range []string{"", "a", "m", "A", "M", "amBMyz"} {
		for _, c := range []api.Cartridge{holding(6, letters), once(6, letters), locked(6, letters)} {
			if !cartridge.Valid(c) {
				t.Errorf("%s: not valid", name(c))
			}
			c.WriteOnce, c.Locked = true, true
			if !cartridge.Valid(c) {
				t.Errorf("%s: not valid", name(c))
			}
		}
	}
	if cartridge.Valid(api.Cartridge{}) || !cartridge.Valid(api.Cartridge{Barcode: "A", Geometry: api.Geometry{Wraps: 1, Length: 1}}) {
		t.Error("the zero cartridge is valid, or the least one is not")
	}
}

// P10.2: new cartridges
func TestNew(t *testing.T) {
	for _, writeOnce := range []bool{false, true} {
		for _, g := range []api.Geometry{geometry(1), geometry(4096), {Wraps: 32, Length: 128, Step: 1000000, Turn: 1000000, Jump: 1000000, Stream: 1000000}, {Wraps: 2, Length: 10}} {
			c, e := cartridge.New("TAPE9", g, writeOnce)
			if e != api.OK || !same(c, api.Cartridge{Barcode: "TAPE9", Geometry: g, WriteOnce: writeOnce}) || !cartridge.Valid(c) {
				t.Errorf("%+v %t: %s, %d", g, writeOnce, name(c), e)
			}
		}
	}
}

// P10.2: both errors together, and each of them alone
func TestErrorsOfNew(t *testing.T) {
	badGeometries := []api.Geometry{{}, {Wraps: 33, Length: 1}, {Wraps: 1, Length: 4097}, {Wraps: 1, Length: 1, Step: -1}, {Wraps: math.MinInt, Length: math.MaxInt}}
	badBarcodes := []string{"", "a", "A B", "ABCDEFGHIJKLMNOPQRSTUVWXY", "\x00"}
	for _, writeOnce := range []bool{false, true} {
		for _, g := range badGeometries {
			for _, s := range badBarcodes {
				if c, e := cartridge.New(s, g, writeOnce); e != api.ErrInvalid || !same(c, api.Cartridge{}) {
					t.Errorf("New(%q, %+v): %s, %d", s, g, name(c), e)
				}
				if c, e := cartridge.New(s, geometry(4), writeOnce); e != api.ErrInvalid || !same(c, api.Cartridge{}) {
					t.Errorf("New(%q): %s, %d", s, name(c), e)
				}
			}
			if c, e := cartridge.New("A", g, writeOnce); e != api.ErrRange || !same(c, api.Cartridge{}) {
				t.Errorf("New of %+v: %s, %d", g, name(c), e)
			}
		}
	}
}
