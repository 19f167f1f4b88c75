package robot_test

import (
	"testing"

	"tapearchive/api"
	"tapearchive/robot"
)

// The chapter's example 1
func TestFirstExample(t *testing.T) {
	m := api.RobotModel{Slots: 4, Drives: 2, DriveAt: 6, PortAt: 10, Move: 2, Pick: 5, Put: 4}
	r := api.Robot{Slots: []string{"", "", "", "A"}}
	r, time, e := robot.Pick(m, r, api.Element{Kind: api.ElementSlot, Index: 3}, "")
	if e != api.OK || time != 11 || !same(r, api.Robot{At: 3, Slots: []string{"", "", "", ""}, Hand: "A"}) {
		t.Fatalf("Pick: %s, %d, %d", name(r), time, e)
	}
	r, time, e = robot.Put(m, r, api.Element{Kind: api.ElementDrive, Index: 1})
	if e != api.OK || time != 12 || !same(r, api.Robot{At: 7, Slots: []string{"", "", "", ""}}) {
		t.Errorf("Put: %s, %d, %d", name(r), time, e)
	}
}

// The chapter's example 2
func TestSecondExample(t *testing.T) {
	m := api.RobotModel{Slots: 4, Drives: 2, DriveAt: 6, PortAt: 10, Move: 2, Pick: 5, Put: 4}
	if got := robot.Farthest(m); got != 49 {
		t.Error(got)
	}
}

// The chapter's example 3
func TestThirdExample(t *testing.T) {
	for _, slots := range [][]string{{"", "", ""}, {"A", ""}, {""}} {
		for _, r := range []api.Robot{{Slots: slots}, {Slots: slots, Port: "P", Hand: "H"}} {
			if e, found := robot.Find(r, ""); found || e != (api.Element{}) {
				t.Errorf("%s: %+v %t", name(r), e, found)
			}
			if _, found := robot.Empty(r); !found {
				t.Errorf("%s: no slot is empty", name(r))
			}
		}
	}
}
