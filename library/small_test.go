package library_test

import (
	"slices"
	"strings"
	"testing"
)

// placed calls f with all texts of libraries with two slots and two drives that have these cartridges, each drive in all states in which it may be.
func placed(letters string, f func(text string)) {
	var put func(text []byte, k int)
	put = func(text []byte, k int) {
		if k == len(letters) {
			states(text, f)
			return
		}
		for i, c := range text {
			if c == '-' {
				text[i] = letters[k]
				put(text, k+1)
				text[i] = '-'
			}
		}
	}
	put([]byte("-- - - --"), 0)
}

// states calls f with a text whose drives are in order and failed, in all four ways.
func states(text []byte, f func(text string)) {
	for set := range 4 {
		s := slices.Clone(text)
		for i := range 2 {
			if set>>i&1 == 1 {
				at := len(s) - 1 - i
				s[at] = strings.ToLower(strings.Replace(string(s[at:at+1]), "-", "!", 1))[0]
			}
		}
		f(string(s))
	}
}

// P13.2 to P13.11: all functions with all libraries with two slots and two drives that have up to three cartridges, and with a part of those that have more.
func TestSmallLibraries(t *testing.T) {
	for _, letters := range []string{"", "A", "AB", "ABC", "ABCD", "ABCDE", "ABCDEF"} {
		t.Run("with cartridges "+letters, func(t *testing.T) {
			t.Parallel()
			n := 0
			placed(letters, func(text string) {
				n++
				if len(letters) > 3 && n%7 != 0 {
					return
				}
				l := lib(text)
				for _, o := range operations(l, "ABCX") {
					try(t, o, l)
					try(t, o, failed(l))
				}
			})
			t.Log(n, "libraries")
		})
	}
}
