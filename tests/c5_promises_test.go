package tests

import (
	"testing"

	"loop.example/watershares/impl"
)

func TestP65BasinsCanBeEmpty(t *testing.T) {
	for room := range 20001 {
		for _, held := range []int{0, room / 2, room} {
			if !impl.ValidBasin(basin(room, held)) {
				t.Fatalf("ValidBasin(%d, %d) = false", room, held)
			}
		}
		if impl.ValidBasin(basin(room, room+1)) || impl.ValidBasin(basin(room, -1)) {
			t.Fatalf("a basin with room for %d can hold more, or less than nothing", room)
		}
	}
	for _, room := range badRooms() {
		if impl.ValidBasin(basin(room, 0)) || impl.ValidBasin(basin(room, room)) {
			t.Errorf("a basin can have room for %d", room)
		}
	}
}

func TestP66NoWaterIsMadeInABasin(t *testing.T) {
	spilled := 0
	missed := 0
	for _, b := range append(fewBasins(), basin(3, 2), basin(30, 17), basin(800, 350)) {
		for _, come := range someCounts() {
			for _, want := range someCounts() {
				after, give, spill := impl.StepBasin(b, come, want)
				if b.Held+come != after.Held+give+spill || give < 0 || spill < 0 || give > want {
					t.Errorf("StepBasin(%v, %d, %d) = %v, %d, %d", b, come, want, after, give, spill)
				}
				if !impl.ValidBasin(after) || after.Room != b.Room || spill > 0 && after.Held < after.Room {
					t.Errorf("StepBasin(%v, %d, %d) = %v, and %d spill", b, come, want, after, spill)
				}
				if give < want && (after.Held > 0 || spill > 0) {
					t.Errorf("StepBasin(%v, %d, %d) = %v, %d, though there is more", b, come, want, after, give)
				}
				if spill > 0 {
					spilled++
				}
				if give < want {
					missed++
				}
			}
		}
	}
	if spilled < 1000 || missed < 1000 {
		t.Errorf("only %d times water spills, and %d times it is lacking", spilled, missed)
	}
}

// someParting returns hours after which a season can be parted.
func someParting(hours int) []int {
	list := []int{}
	for at := 0; at <= hours; at += 1 + hours/10 {
		list = append(list, at)
	}
	return append(list, hours/2, hours)
}

func TestP67DaysAreHours(t *testing.T) {
	d := &dice{seed: 61}
	for _, s := range someSeasons() {
		hours := len(s.come)
		for _, b := range basinsFor(d, s) {
			gives, end := impl.RunBasin(b, s.come, s.want)
			spills := impl.SpillsOf(b, s.come, s.want)
			for _, at := range someParting(hours) {
				first := s.part(0, at)
				last := s.part(at, hours)
				gave, left := impl.RunBasin(b, first.come, first.want)
				more, after := impl.RunBasin(left, last.come, last.want)
				if !sameList(joined(gave, more), gives) || after != end {
					t.Errorf("RunBasin(%v, %v) parted after %d hours = %v and %v", b, s, at, gave, more)
				}
				if !sameList(joined(impl.SpillsOf(b, first.come, first.want), impl.SpillsOf(left, last.come, last.want)), spills) {
					t.Errorf("SpillsOf(%v, %v) parted after %d hours", b, s, at)
				}
			}
		}
	}
}

func TestP67HoursAreSteps(t *testing.T) {
	d := &dice{seed: 67}
	for _, s := range someSeasons() {
		for _, b := range basinsFor(d, s) {
			gives, end := impl.RunBasin(b, s.come, s.want)
			spills := impl.SpillsOf(b, s.come, s.want)
			if len(gives) != len(s.come) || len(spills) != len(s.come) {
				t.Fatalf("RunBasin(%v, %v) = %v", b, s, gives)
			}
			now := b
			for i := range s.come {
				after, give, spill := impl.StepBasin(now, s.come[i], s.want[i])
				if give != gives[i] || spill != spills[i] {
					t.Errorf("RunBasin(%v, %v) = %v, and SpillsOf %v", b, s, gives, spills)
				}
				now = after
			}
			if now != end {
				t.Errorf("RunBasin(%v, %v) ends with %v, not %v", b, s, end, now)
			}
		}
	}
}

func TestP68AllWaterIsAccountedFor(t *testing.T) {
	d := &dice{seed: 71}
	for _, s := range someSeasons() {
		for _, b := range basinsFor(d, s) {
			gives, end := impl.RunBasin(b, s.come, s.want)
			spills := impl.SpillsOf(b, s.come, s.want)
			if b.Held+total(s.come) != total(gives)+total(spills)+end.Held {
				t.Errorf("RunBasin(%v, %v) = %v, %v, and SpillsOf %v", b, s, gives, end, spills)
			}
			if !impl.ValidBasin(end) || end.Room != b.Room {
				t.Errorf("RunBasin(%v, %v) ends with %v", b, s, end)
			}
			if lacks := impl.ShortOf(b, s.come, s.want); lacks != total(s.want)-total(gives) {
				t.Errorf("ShortOf(%v, %v) = %d, and %v are given", b, s, lacks, gives)
			}
		}
	}
}

func TestP69LargerBasinsSpillLess(t *testing.T) {
	d := &dice{seed: 73}
	less := 0
	for _, s := range someSeasons() {
		for _, b := range basinsFor(d, s) {
			if b.Room > 19990 {
				continue
			}
			spills := total(impl.SpillsOf(b, s.come, s.want))
			larger := total(impl.SpillsOf(basin(b.Room+10, b.Held), s.come, s.want))
			if larger > spills {
				t.Errorf("%v spills %d in %v, and with 10 units more room %d", b, spills, s, larger)
			}
			if larger < spills {
				less++
			}
		}
	}
	if less < 2000 {
		t.Errorf("only %d basins spill less with more room", less)
	}
}

func TestP70MoreWaterLacksLess(t *testing.T) {
	d := &dice{seed: 79}
	less := 0
	for _, s := range someSeasons() {
		for _, b := range basinsFor(d, s) {
			lacks := impl.ShortOf(b, s.come, s.want)
			full := short(b.Room, b.Room, s)
			if full > lacks || full < 0 {
				t.Errorf("ShortOf(%v, %v) = %d, and %d of a full one", b, s, lacks, full)
			}
			all := total(s.want) - total(s.come)
			if lacks < all-b.Held || full < all-b.Room {
				t.Errorf("ShortOf(%v, %v) = %d, and %d of a full one, is more than there is", b, s, lacks, full)
			}
			if full < lacks {
				less++
			}
		}
	}
	if less < 1000 {
		t.Errorf("only %d full basins lack less", less)
	}
}

func TestP71TheLeastRoomIsEnough(t *testing.T) {
	told := 0
	missed := 0
	for _, s := range someSeasons() {
		for _, held := range askedRooms(s) {
			room := impl.LeastRoom(held, s.come, s.want)
			if room == -1 {
				if short(20000, held, s) <= 0 {
					t.Errorf("LeastRoom(%d, %v) = -1, but the greatest room is enough", held, s)
				}
				missed++
				continue
			}
			if room < held || room > 20000 || short(room, held, s) != 0 {
				t.Errorf("LeastRoom(%d, %v) = %d is not enough", held, s, room)
			}
			if room > held {
				told++
				if short(room-1, held, s) <= 0 {
					t.Errorf("LeastRoom(%d, %v) = %d is not the least one", held, s, room)
				}
			}
		}
	}
	if told < 500 || missed < 500 {
		t.Errorf("only %d rooms are greater than the water at first, and %d are not told", told, missed)
	}
}

func TestP72TheLeastWaterIsEnough(t *testing.T) {
	told := 0
	missed := 0
	for _, s := range someSeasons() {
		for _, room := range askedRooms(s) {
			held := impl.LeastHeld(room, s.come, s.want)
			if held == -1 {
				if short(room, room, s) <= 0 {
					t.Errorf("LeastHeld(%d, %v) = -1, but a full basin is enough", room, s)
				}
				missed++
				continue
			}
			if held < 0 || held > room || short(room, held, s) != 0 || held > impl.DeepestNeed(s.come, s.want) {
				t.Errorf("LeastHeld(%d, %v) = %d is not enough, or too much", room, s, held)
			}
			if held > 0 {
				told++
				if short(room, held-1, s) <= 0 {
					t.Errorf("LeastHeld(%d, %v) = %d is not the least one", room, s, held)
				}
			}
		}
	}
	if told < 1000 || missed < 1000 {
		t.Errorf("only %d times water is needed at first, and %d times it is not told", told, missed)
	}
}

func TestP73ABasinThatHoldsTheDeepestNeedIsEnough(t *testing.T) {
	enough := 0
	less := 0
	for _, s := range someSeasons() {
		need := impl.DeepestNeed(s.come, s.want)
		for _, room := range askedRooms(s) {
			if (short(room, room, s) == 0) != (room >= need) {
				t.Errorf("a full basin of %d lacks %d in %v, and DeepestNeed is %d", room, short(room, room, s), s, need)
			}
			if room >= need {
				enough++
			} else {
				less++
			}
		}
	}
	if enough < 1000 || less < 1000 {
		t.Errorf("only %d basins hold the deepest need, and %d do not", enough, less)
	}
}

func TestP74TwoWaysToTheLeastRoomAgree(t *testing.T) {
	needed := 0
	for _, s := range someSeasons() {
		need := impl.DeepestNeed(s.come, s.want)
		told := impl.LeastHeld(need, s.come, s.want) != -1
		// No basin has room for a need greater than the greatest room.
		if told != (need <= 20000) {
			t.Errorf("LeastHeld(%d, %v) = %d", need, s, impl.LeastHeld(need, s.come, s.want))
		}
		if need > 0 {
			needed++
			if held := impl.LeastHeld(need-1, s.come, s.want); held != -1 {
				t.Errorf("LeastHeld(%d, %v) = %d, and DeepestNeed is %d", need-1, s, held, need)
			}
		}
	}
	if needed < 200 {
		t.Errorf("only %d seasons have a need", needed)
	}
}

func TestP75SureFlowsAreSure(t *testing.T) {
	d := &dice{seed: 97}
	between := 0
	for _, s := range someSeasons() {
		hours := len(s.come)
		for _, b := range basinsFor(d, s) {
			sure := impl.SureFlow(b, s.come)
			if sure < 0 || sure > 500 || impl.ShortOf(b, s.come, steady(sure, hours)) != 0 {
				t.Fatalf("SureFlow(%v, %v) = %d is not sure", b, s.come, sure)
			}
			if sure == 500 {
				continue
			}
			if impl.ShortOf(b, s.come, steady(sure+1, hours)) <= 0 {
				t.Errorf("SureFlow(%v, %v) = %d is not the greatest flow", b, s.come, sure)
			}
			if sure > 0 {
				between++
			}
		}
	}
	if between < 1000 {
		t.Errorf("only %d flows are neither 0 nor all units", between)
	}
}

func TestP76SumsRiseByFlows(t *testing.T) {
	for _, s := range someSeasons() {
		for _, flows := range [][]int{s.come, s.want} {
			sums := impl.SumsOf(flows)
			if len(sums) != len(flows) {
				t.Fatalf("SumsOf(%v) = %v", flows, sums)
			}
			before := 0
			for i, sum := range sums {
				if sum != before+flows[i] {
					t.Errorf("SumsOf(%v) = %v", flows, sums)
				}
				before = sum
			}
			if before != total(flows) {
				t.Errorf("SumsOf(%v) ends with %d", flows, before)
			}
		}
	}
}
