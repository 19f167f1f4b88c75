package label_test

import (
	"math"
	"strings"
	"testing"

	"tapearchive/api"
	"tapearchive/label"
)

// checkName compares Name with the definition of a name, and Valid of labels with this string as barcode and as pool with those of a barcode and a name.
func checkName(t *testing.T, s string) {
	t.Helper()
	if got := label.Name(s); got != nameOf(s) {
		t.Errorf("Name of %q: %t", s, got)
	}
	if got := label.Valid(api.Label{Barcode: "A1", Pool: s}); got != nameOf(s) {
		t.Errorf("Valid with the pool %q: %t", s, got)
	}
	if got := label.Valid(api.Label{Barcode: s, Pool: "p"}); got != barcodeOf(s) {
		t.Errorf("Valid with the barcode %q: %t", s, got)
	}
}

// P14.1: known strings
func TestKnownStrings(t *testing.T) {
	for s, want := range map[string]struct{ barcode, name bool }{
		"": {}, "a": {name: true}, "z": {name: true}, "A": {barcode: true}, "Z": {barcode: true}, "0": {barcode: true}, "9": {barcode: true}, "-": {},
		"a-1": {name: true}, "a-": {name: true}, "a--": {name: true}, "a1": {name: true}, "1a": {}, "-a": {}, "--": {}, "0-": {}, "9z": {},
		"A1": {barcode: true}, "1A": {barcode: true}, "00": {barcode: true}, "A-1": {}, "aA": {}, "Aa": {}, "a_b": {}, "a b": {}, "a\n": {}, " a": {}, "A ": {}, "a\x00": {}, "A\x00": {},
		"ä": {}, "aä": {}, "Ä": {}, "AÄ": {}, "\xc3": {}, "a\xa4": {}, "A\x84": {}, "ａ": {}, "Ａ": {}, "a²": {}, "A٣": {}, "\u017f": {}, "\u212a": {},
		letters[:23]: {name: true}, letters[:24]: {name: true}, letters[:25]: {}, letters + digits: {},
		capitals[:23]: {barcode: true}, capitals[:24]: {barcode: true}, capitals[:25]: {}, capitals + digits: {},
		strings.Repeat("a", 1000): {}, strings.Repeat("A", 1000): {}, strings.Repeat("ä", 12): {}, strings.Repeat("Ä", 12): {}, strings.Repeat("\x00", 24): {},
		"a" + strings.Repeat("-", 23): {name: true}, "a" + strings.Repeat("-", 24): {}, strings.Repeat("9", 24): {barcode: true}, strings.Repeat("9", 25): {},
	} {
		if got := label.Name(s); got != want.name {
			t.Errorf("Name of %q: %t", s, got)
		}
		if got := label.Valid(api.Label{Barcode: "A1", Pool: s}); got != want.name {
			t.Errorf("Valid with the pool %q: %t", s, got)
		}
		if got := label.Valid(api.Label{Barcode: s, Pool: "p"}); got != want.barcode {
			t.Errorf("Valid with the barcode %q: %t", s, got)
		}
		checkName(t, s)
	}
}

// P14.1: strings of 0, 1, MaxName and MaxName + 1 bytes and of other lengths, with every byte at every place
func TestEveryByte(t *testing.T) {
	for _, fill := range []string{"a", "z", "-", "5", "A", "Z"} {
		for _, n := range []int{0, 1, 2, 3, 12, 23, 24, 25, 26, 100} {
			for _, first := range []string{"a", "A", "7", fill} {
				s := (first + strings.Repeat(fill, n))[:n]
				checkName(t, s)
				for at := range n {
					for x := range 256 {
						checkName(t, s[:at]+string([]byte{byte(x)})+s[at+1:])
					}
				}
			}
		}
	}
}

// P14.1: all strings of up to two bytes
func TestShortStrings(t *testing.T) {
	checkName(t, "")
	for x := range 256 {
		checkName(t, string([]byte{byte(x)}))
		for y := range 256 {
			checkName(t, string([]byte{byte(x), byte(y)}))
		}
	}
}

// P14.1: letters and digits outside ASCII, also at the end of strings that are full with them
func TestOtherLetters(t *testing.T) {
	for _, r := range "äÄßéΑаٱ٠９ａＡ𐀁𝐀𝟎ªº²Ⅷ\u0130\u0131\u017f\u212a\ufffd" {
		for n := range 26 {
			for _, s := range []string{letters[:n], capitals[:n]} {
				checkName(t, s+string(r))
				checkName(t, string(r)+s)
				checkName(t, s[:n/2]+string(r)+s[n/2:])
			}
		}
	}
}

// P14.1: epochs and times at their bounds, and each with each
func TestNumbers(t *testing.T) {
	epochs := map[int]bool{math.MinInt: false, math.MinInt + 1: false, -api.MaxNumber: false, -2: false, -1: false, 0: true, 1: true, api.Forever - 1: true, api.Forever: true, api.MaxNumber - 1: true, api.MaxNumber: true, api.MaxNumber + 1: false, math.MaxInt - 1: false, math.MaxInt: false}
	times := map[int]bool{math.MinInt: false, math.MinInt + 1: false, -api.Forever: false, -2: false, -1: false, 0: true, 1: true, api.Forever - 2: true, api.Forever - 1: true, api.Forever: false, api.Forever + 1: false, api.MaxNumber: false, math.MaxInt - 1: false, math.MaxInt: false}
	for epoch, inside := range epochs {
		for time, valid := range times {
			l := api.Label{Barcode: "A1", Pool: "p", Epoch: epoch, Created: time}
			if got := label.Valid(l); got != (inside && valid) || got != validOf(l) {
				t.Errorf("%+v: %t", l, got)
			}
		}
	}
}

// P14.1: every condition alone, and all of them
func TestConditions(t *testing.T) {
	if label.Valid(api.Label{}) {
		t.Error("the zero label is valid")
	}
	for _, l := range labels() {
		if !label.Valid(l) {
			t.Errorf("%+v is not valid", l)
		}
	}
	for _, l := range invalid() {
		if label.Valid(l) {
			t.Errorf("%+v is valid", l)
		}
	}
	for i := range 16 {
		l := chapter()
		if i&1 > 0 {
			l.Barcode = "a"
		}
		if i&2 > 0 {
			l.Pool = "A"
		}
		if i&4 > 0 {
			l.Epoch = -1
		}
		if i&8 > 0 {
			l.Created = api.Forever
		}
		if got := label.Valid(l); got != (i == 0) {
			t.Errorf("%+v: %t", l, got)
		}
	}
}
