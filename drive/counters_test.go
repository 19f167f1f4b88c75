package drive_test

import (
	"strings"
	"testing"

	"tapearchive/api"
)

// Counters are limited to MaxNumber: each one at 0, at MaxNumber and next to it, alone and together, and where a motion would lead beyond.
func TestLimitsOfCounters(t *testing.T) {
	const most = 1 << 50
	values := []int{0, 1, most - 1001, most - 901, most - 900, most - 899, most - 100, most - 2, most - 1, most}
	for _, passes := range values {
		for _, since := range values {
			for _, worn := range values {
				d := ready(9)
				d.Passes, d.Since = passes, since
				c := holding(chapter(), strings.Repeat("a", 19))
				c.Passes = worn
				for _, o := range []operation{unload(), seek(0), seek(9), seek(10), seek(8), seek(19), read(1), read(2), read(10), write(blocks("mm")), write(blocks("mmmmmmmmmmm"))} {
					try(t, o, model(), d, c)
				}
				got := try(t, seek(0), model(), d, c) // 900 passes
				if got.d.Passes != min(passes+900, most) || got.d.Since != min(since+900, most) || got.c.Passes != min(worn+900, most) {
					t.Errorf("900 passes more than %d, %d and %d: %s", passes, since, worn, got)
				}
			}
		}
	}
}

// P11.1: Loads of both are limited to MaxNumber, each on its own, and only by Load are they increased.
func TestLimitsOfLoads(t *testing.T) {
	const most = 1 << 50
	for _, loads := range []int{0, 1, 2, most - 2, most - 1, most} {
		for _, ofCartridge := range []int{0, 1, 2, most - 2, most - 1, most} {
			d, held, c := empty(), ready(1), holding(geometry(2, 3), "amz")
			d.Loads, held.Loads, c.Loads = loads, loads, ofCartridge
			got := try(t, load(), model(), d, c)
			if got.d.Loads != min(loads+1, most) || got.c.Loads != min(ofCartridge+1, most) || got.e != api.OK {
				t.Errorf("%d and %d: %s", loads, ofCartridge, got)
			}
			for _, o := range []operation{unload(), seek(2), seek(1), read(1), write(blocks("b"))} {
				if got := try(t, o, model(), held, c); got.d.Loads != loads || got.c.Loads != ofCartridge {
					t.Errorf("%d and %d: %s: %s", loads, ofCartridge, o.name, got)
				}
			}
			if got := try(t, clean(), model(), d, c); got.d.Loads != loads {
				t.Errorf("%d: Clean: %s", loads, got)
			}
		}
	}
}

// The Epoch of a cartridge and all its other fields are kept, also at their limits.
func TestOtherFields(t *testing.T) {
	for _, epoch := range []int{0, 1, 1 << 50} {
		for flags := range 4 {
			c := holding(api.Geometry{Wraps: 2, Length: 3, Step: 1000000, Turn: 999999, Jump: 999998, Stream: 999997}, "amz")
			c.Epoch, c.WriteOnce, c.Locked = epoch, flags&1 == 1, flags&2 == 2
			try(t, load(), model(), empty(), c)
			for _, o := range []operation{unload(), seek(1), read(1), write(blocks("b"))} {
				got := try(t, o, model(), ready(2), c)
				if got.e == api.OK && (got.c.Epoch != epoch || got.c.WriteOnce != c.WriteOnce || got.c.Locked != c.Locked || got.c.Geometry != c.Geometry || got.c.Barcode != c.Barcode) {
					t.Errorf("%s: %s: %s", name(c), o.name, got)
				}
			}
		}
	}
}
