package library_test

import (
	"math"
	"testing"

	"tapearchive/api"
)

// P13.10: drives of each state, with and without a cartridge, and the robot
func TestBreak(t *testing.T) {
	l := lib("A-B P H C-d!")
	for number := range l.Drives {
		got := succeed(t, breaking(driveAt(number)), l)
		want := cloned(l)
		want.Drives[number].State = api.DriveFailed
		if !same(got.l, want) {
			t.Errorf("drive %d: %s", number, got)
		}
		if again := succeed(t, breaking(driveAt(number)), got.l); !same(again.l, want) {
			t.Errorf("drive %d again: %s", number, again)
		}
	}
	got := succeed(t, breaking(hand()), l)
	if !got.l.Robot.Failed || !same(got.l, failed(l)) {
		t.Error(got)
	}
	if again := succeed(t, breaking(hand()), got.l); !same(again.l, failed(l)) {
		t.Error(again)
	}
}

// P13.10: elements of every Kind, and of Kinds that are none, with an Index of -1, 0, the last one and one more
func TestBreakElements(t *testing.T) {
	for _, l := range []api.Library{lib("A-B P H C-d!"), lib("- - - -"), lib("ABCD - - ABCDEFGH"[:9] + "--------")} {
		indices := append(extremes(), -1, 0, 1, len(l.Drives)-1, len(l.Drives), len(l.Drives)+1, len(l.Robot.Slots)-1, len(l.Robot.Slots))
		for _, kind := range append(extremes(), -1, 0, 1, 2, 3, 4, 5, math.MaxInt32) {
			for _, index := range indices {
				e := api.Element{Kind: kind, Index: index}
				if kind == 1 && index >= 0 && index < len(l.Drives) || kind == 3 && index == 0 {
					succeed(t, breaking(e), l)
				} else {
					expect(t, breaking(e), l, api.ErrNotFound)
				}
			}
		}
	}
}

// P13.11: drives of each state, with and without a cartridge, with heads that are not at 0: no counters change, nor does the robot move.
func TestService(t *testing.T) {
	l := lib("A-B P H C-d!")
	l.Drives[3].Head = 4096
	l.Drives[2].Head = 77
	got := succeed(t, service(), failed(l))
	want := lib("AHB P - C-D-")
	for i := range want.Drives {
		want.Drives[i].Head = 0
	}
	if !same(got.l, want) {
		t.Errorf("%s\nwant %s", got, name(want))
	}
	if again := succeed(t, service(), got.l); !same(again.l, want) {
		t.Error(again)
	}
}

// P13.11: what is in the hand is in the first empty slot; without one, and with nothing in the hand, nothing moves.
func TestServiceHand(t *testing.T) {
	for _, x := range []struct {
		text, want string
	}{
		{"--- - A --", "A-- - - --"}, {"B-- - A --", "BA- - - --"}, {"BC- P A D!", "BCA P - D-"}, {"-BC - A --", "ABC - - --"}, {"--- - - --", "--- - - --"}, {"ABC P - --", "ABC P - --"}, {"ABC P - dE", "ABC P - DE"}, {"--- - - !!", "--- - - --"},
	} {
		want := lib(x.want)
		for i := range want.Drives {
			want.Drives[i].Head = 0
		}
		for _, l := range []api.Library{lib(x.text), failed(lib(x.text))} {
			if got := succeed(t, service(), l); !same(got.l, want) {
				t.Errorf("%s: %s", x.text, got)
			}
		}
	}
	for _, text := range []string{"ABC - H --", "ABC P H d!", "A - H -", "ABC - H D-"} {
		expect(t, service(), lib(text), api.ErrFull)
		expect(t, service(), failed(lib(text)), api.ErrFull)
	}
}

// P13.10, P13.11: what was broken works again.
func TestBreakAndService(t *testing.T) {
	for _, l := range []api.Library{lib("A-B P H C--E"), lib("--- - - --"), lib("ABC - - D")} {
		want := succeed(t, service(), l).l
		broken := cloned(l)
		for i := range l.Drives {
			broken = succeed(t, breaking(driveAt(i)), broken).l
		}
		broken = succeed(t, breaking(hand()), broken).l
		if got := succeed(t, service(), broken); !same(got.l, want) {
			t.Errorf("%s\nwant %s", got, name(want))
		}
	}
}
