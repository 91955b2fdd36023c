package tests

import (
	"testing"

	"loop.example/watershares/impl"
)

func TestValidBasin(t *testing.T) {
	for _, b := range fewBasins() {
		if !impl.ValidBasin(b) {
			t.Errorf("ValidBasin(%v) = false", b)
		}
	}
	for _, b := range badBasins() {
		if impl.ValidBasin(b) {
			t.Errorf("ValidBasin(%v) = true", b)
		}
	}
	for room := -3; room <= 12; room++ {
		for held := -3; held <= 12; held++ {
			if fine := held >= 0 && held <= room; impl.ValidBasin(basin(room, held)) != fine {
				t.Errorf("ValidBasin(%d, %d) is not %v", room, held, fine)
			}
		}
	}
}

// checkStep checks StepBasin of a basin in an hour.
func checkStep(t *testing.T, b impl.Basin, come int, want int, held int, give int, spill int) {
	t.Helper()
	after, gave, spilled := impl.StepBasin(b, come, want)
	if after != basin(b.Room, held) || gave != give || spilled != spill {
		t.Errorf("StepBasin(%v, %d, %d) = %v, %d, %d, not %d, %d, %d", b, come, want, after, gave, spilled, held, give, spill)
	}
}

// checkStepByUnits checks StepBasin of a basin in an hour against the hour unit by unit.
func checkStepByUnits(t *testing.T, b impl.Basin, come int, want int) {
	t.Helper()
	after, give, spill := hourOf(b, come, want)
	checkStep(t, b, come, want, after.Held, give, spill)
}

func TestStepBasin(t *testing.T) {
	for room := range 8 {
		for held := range room + 1 {
			for come := range 10 {
				for want := range 18 {
					checkStepByUnits(t, basin(room, held), come, want)
				}
			}
		}
	}
	counts := someCounts()
	for _, b := range fewBasins() {
		for _, come := range counts {
			for _, want := range counts {
				checkStepByUnits(t, b, come, want)
			}
		}
	}
}

func TestStepsByHand(t *testing.T) {
	// Without room all that is not wanted spills.
	checkStep(t, basin(0, 0), 10, 4, 0, 4, 6)
	checkStep(t, basin(0, 0), 4, 10, 0, 4, 0)
	checkStep(t, basin(0, 0), 500, 500, 0, 500, 0)
	checkStep(t, basin(0, 0), 500, 0, 0, 0, 500)
	checkStep(t, basin(0, 0), 0, 500, 0, 0, 0)
	// Hours without water, in which what is wanted is just there, or 1 unit is lacking or left.
	checkStep(t, basin(20, 8), 0, 8, 0, 8, 0)
	checkStep(t, basin(20, 8), 0, 9, 0, 8, 0)
	checkStep(t, basin(20, 8), 0, 7, 1, 7, 0)
	checkStep(t, basin(20, 8), 5, 13, 0, 13, 0)
	checkStep(t, basin(20, 8), 5, 14, 0, 13, 0)
	// A full basin keeps what is given from what comes: it spills only the rest.
	checkStep(t, basin(20, 20), 5, 5, 20, 5, 0)
	checkStep(t, basin(20, 20), 5, 4, 20, 4, 1)
	checkStep(t, basin(20, 20), 5, 6, 19, 6, 0)
	checkStep(t, basin(20, 20), 0, 0, 20, 0, 0)
	checkStep(t, basin(20, 20), 500, 500, 20, 500, 0)
	checkStep(t, basin(20, 15), 5, 0, 20, 0, 0)
	checkStep(t, basin(20, 15), 6, 0, 20, 0, 1)
	checkStep(t, basin(20000, 20000), 500, 0, 20000, 0, 500)
	checkStep(t, basin(20000, 20000), 0, 500, 19500, 500, 0)
	checkStep(t, basin(20000, 19500), 500, 0, 20000, 0, 0)
}

// checkNoStep checks that there is no StepBasin.
func checkNoStep(t *testing.T, b impl.Basin, come int, want int) {
	t.Helper()
	after, give, spill := impl.StepBasin(b, come, want)
	if after != basin(0, 0) || give != 0 || spill != 0 {
		t.Errorf("StepBasin(%v, %d, %d) = %v, %d, %d", b, come, want, after, give, spill)
	}
}

func TestOtherSteps(t *testing.T) {
	for _, b := range badBasins() {
		for _, come := range []int{0, 1, 500} {
			for _, want := range []int{0, 1, 500} {
				checkNoStep(t, b, come, want)
			}
		}
	}
	for _, b := range fewBasins() {
		for _, bad := range badCounts() {
			checkNoStep(t, b, bad, 3)
			checkNoStep(t, b, 3, bad)
			checkNoStep(t, b, bad, bad)
		}
	}
}

// checkCourse checks RunBasin, SpillsOf and ShortOf of a basin in a season.
func checkCourse(t *testing.T, b impl.Basin, s season, c course) {
	t.Helper()
	gives, end := impl.RunBasin(b, s.come, s.want)
	if !sameList(gives, c.gives) || end != c.end {
		t.Errorf("RunBasin(%v, %v) = %v, %v, not %v, %v", b, s, gives, end, c.gives, c.end)
	}
	if spills := impl.SpillsOf(b, s.come, s.want); !sameList(spills, c.spills) {
		t.Errorf("SpillsOf(%v, %v) = %v, not %v", b, s, spills, c.spills)
	}
	if lacks := impl.ShortOf(b, s.come, s.want); lacks != c.lacks {
		t.Errorf("ShortOf(%v, %v) = %d, not %d", b, s, lacks, c.lacks)
	}
}

func TestRunsUnitByUnit(t *testing.T) {
	d := &dice{seed: 43}
	lacking := 0
	spilling := 0
	for _, s := range someSeasons() {
		for _, b := range basinsFor(d, s) {
			c := courseOf(b, s)
			checkCourse(t, b, s, c)
			if c.lacks > 0 {
				lacking++
			}
			if total(c.spills) > 0 {
				spilling++
			}
		}
	}
	if lacking < 2000 || spilling < 2000 {
		t.Errorf("only %d times water is lacking, and %d times some spills", lacking, spilling)
	}
}

func TestRunsByHand(t *testing.T) {
	day := season{[]int{10, 30, 0, 0}, []int{5, 5, 10, 10}}
	checkCourse(t, basin(20, 0), day, course{[]int{5, 5, 10, 10}, []int{0, 10, 0, 0}, basin(20, 0), 0})
	checkCourse(t, basin(15, 0), day, course{[]int{5, 5, 10, 5}, []int{0, 15, 0, 0}, basin(15, 0), 5})
	checkCourse(t, basin(30, 0), day, course{[]int{5, 5, 10, 10}, []int{0, 0, 0, 0}, basin(30, 10), 0})
	checkCourse(t, basin(20, 20), day, course{[]int{5, 5, 10, 10}, []int{5, 25, 0, 0}, basin(20, 0), 0})
	checkCourse(t, basin(0, 0), day, course{[]int{5, 5, 0, 0}, []int{5, 25, 0, 0}, basin(0, 0), 20})
	// What is given in an hour came before or in this hour, never later.
	late := season{[]int{0, 10, 0}, []int{10, 0, 10}}
	checkCourse(t, basin(50, 0), late, course{[]int{0, 0, 10}, []int{0, 0, 0}, basin(50, 0), 10})
	checkCourse(t, basin(50, 4), late, course{[]int{4, 0, 10}, []int{0, 0, 0}, basin(50, 0), 6})
	checkCourse(t, basin(9, 9), late, course{[]int{9, 0, 9}, []int{0, 1, 0}, basin(9, 0), 2})
}

func TestRunsOfNoHours(t *testing.T) {
	for _, b := range fewBasins() {
		for _, s := range []season{{nil, nil}, {[]int{}, []int{}}, {nil, []int{}}, {[]int{}, nil}} {
			checkCourse(t, b, s, course{end: b})
			if b.Held != impl.LeastRoom(b.Held, s.come, s.want) || impl.LeastHeld(b.Room, s.come, s.want) != 0 || impl.SureFlow(b, s.come) != 500 || impl.DeepestNeed(s.come, s.want) != 0 {
				t.Errorf("no hours of %v", b)
			}
		}
	}
	if len(impl.SumsOf(nil)) != 0 || len(impl.SumsOf([]int{})) != 0 {
		t.Error("SumsOf no hours")
	}
}

// checkNoCourse checks that a basin does not run in a season.
func checkNoCourse(t *testing.T, b impl.Basin, s season) {
	t.Helper()
	checkCourse(t, b, s, course{lacks: -1})
}

func TestOtherRuns(t *testing.T) {
	for _, b := range badBasins() {
		for _, s := range fewSeasons() {
			checkNoCourse(t, b, s)
		}
		for _, s := range badSeasons() {
			checkNoCourse(t, b, s)
		}
	}
	for _, b := range fewBasins() {
		for _, s := range badSeasons() {
			checkNoCourse(t, b, s)
		}
	}
}

func TestLimitOfHours(t *testing.T) {
	for hours := 198; hours <= 203; hours++ {
		s := season{steady(500, hours), steady(500, hours)}
		if hours <= 200 {
			checkCourse(t, basin(20000, 20000), s, course{s.want, steady(0, hours), basin(20000, 20000), 0})
			checkUnits(t, "LeastRoom", 20000, s, impl.LeastRoom(20000, s.come, s.want), 20000)
			checkUnits(t, "LeastHeld", 20000, s, impl.LeastHeld(20000, s.come, s.want), 0)
			checkUnits(t, "SureFlow", 20000, s, impl.SureFlow(basin(20000, 20000), s.come), 500)
			checkUnits(t, "DeepestNeed", 0, s, impl.DeepestNeed(s.come, s.want), 0)
			checkUnits(t, "the sum", 0, s, impl.SumsOf(s.come)[hours-1], 500*hours)
		} else {
			checkNoCourse(t, basin(20000, 20000), s)
			checkNoLeast(t, 20000, s)
			checkUnits(t, "SureFlow", 20000, s, impl.SureFlow(basin(20000, 20000), s.come), -1)
			checkUnits(t, "the sums", 0, s, len(impl.SumsOf(s.come)), 0)
		}
	}
}

// askedRooms returns rooms, or water, those near to the needs of a season among them.
func askedRooms(s season) []int {
	list := []int{0, 1, 2, 10, 100, 500, 9999, 10000, 19999, 20000}
	for _, near := range []int{s.deepest(), s.firstNeed(), s.laterNeed()} {
		for room := max(0, near-2); room <= min(20000, near+2); room++ {
			list = append(list, room)
		}
	}
	return list
}

func TestLeastRoom(t *testing.T) {
	told := 0
	for _, s := range someSeasons() {
		for _, held := range askedRooms(s) {
			want := s.leastRoom(held)
			checkUnits(t, "LeastRoom", held, s, impl.LeastRoom(held, s.come, s.want), want)
			if want > held {
				told++
			}
		}
	}
	if told < 500 {
		t.Errorf("only %d rooms are greater than the water at first", told)
	}
}

func TestLeastRoomByTrying(t *testing.T) {
	d := &dice{seed: 47}
	for range 300 {
		s := madeSeason(d, 1+d.roll(6))
		for _, held := range []int{0, d.roll(20), d.roll(600)} {
			want := held
			// More room than for all that is there cannot help.
			most := held + total(s.come)
			for want <= most && courseOf(basin(want, held), s).lacks > 0 {
				want++
			}
			if want > most {
				want = -1
			}
			checkUnits(t, "LeastRoom", held, s, impl.LeastRoom(held, s.come, s.want), want)
		}
	}
}

func TestLeastHeld(t *testing.T) {
	told := 0
	for _, s := range someSeasons() {
		for _, room := range askedRooms(s) {
			want := s.leastHeld(room)
			checkUnits(t, "LeastHeld", room, s, impl.LeastHeld(room, s.come, s.want), want)
			if want > 0 {
				told++
			}
		}
	}
	if told < 1000 {
		t.Errorf("only %d times water is needed at first", told)
	}
}

func TestLeastHeldByTrying(t *testing.T) {
	d := &dice{seed: 53}
	for range 300 {
		s := madeSeason(d, 1+d.roll(6))
		for _, room := range []int{0, d.roll(20), d.roll(600), s.deepest()} {
			want := 0
			for want <= room && courseOf(basin(room, want), s).lacks > 0 {
				want++
			}
			if want > room {
				want = -1
			}
			checkUnits(t, "LeastHeld", room, s, impl.LeastHeld(room, s.come, s.want), want)
		}
	}
}

// leastCase is a season, water at first or a room, and what LeastRoom and LeastHeld are of it.
type leastCase struct {
	s    season
	of   int
	room int
	held int
}

func TestLeastByHand(t *testing.T) {
	day := season{[]int{10, 30, 0, 0}, []int{5, 5, 10, 10}}
	dry := season{[]int{0, 0}, []int{5, 8}}
	wet := season{[]int{500, 500}, []int{0, 0}}
	just := season{[]int{5, 8}, []int{5, 8}}
	cases := []leastCase{
		{day, 0, 20, -1}, {day, 19, 20, -1}, {day, 20, 20, 0}, {day, 21, 21, 0}, {day, 30, 30, 0}, {day, 20000, 20000, 0},
		// Where nothing comes, all that is needed must be there at first.
		{dry, 0, -1, -1}, {dry, 12, -1, -1}, {dry, 13, 13, 13}, {dry, 14, 14, 13}, {dry, 20000, 20000, 13},
		{wet, 0, 0, 0}, {wet, 5, 5, 0}, {wet, 20000, 20000, 0},
		{just, 0, 0, 0}, {just, 3, 3, 0},
		// The greatest room is just enough, and 1 unit more is too much.
		{dryAfter(500, 40), 0, 20000, -1}, {dryAfter(500, 40), 19999, 20000, -1}, {dryAfter(500, 40), 20000, 20000, 0},
		{dryAfter(500, 40).then(0, 1), 0, -1, -1}, {dryAfter(500, 40).then(0, 1), 20000, -1, -1}, {dryAfter(500, 41), 20000, -1, -1},
		{season{steady(0, 40), steady(500, 40)}, 20000, 20000, 20000}, {season{steady(0, 40), steady(500, 40)}, 19999, -1, -1}, {season{steady(0, 41), append(steady(500, 40), 1)}, 20000, -1, -1},
		// The first need asks for water at first, whatever the room, and the later one for room.
		{season{[]int{0, 9, 0}, []int{4, 0, 6}}, 4, 6, -1}, {season{[]int{0, 9, 0}, []int{4, 0, 6}}, 3, -1, -1}, {season{[]int{0, 9, 0}, []int{4, 0, 6}}, 6, 6, 4},
		{season{[]int{0, 9, 0}, []int{6, 0, 4}}, 6, 6, 6}, {season{[]int{0, 9, 0}, []int{6, 0, 4}}, 4, -1, -1},
	}
	for _, c := range cases {
		checkUnits(t, "LeastRoom", c.of, c.s, impl.LeastRoom(c.of, c.s.come, c.s.want), c.room)
		checkUnits(t, "LeastHeld", c.of, c.s, impl.LeastHeld(c.of, c.s.come, c.s.want), c.held)
	}
}

// checkNoLeast checks that there is no least room and no least water, and no need, of a season that is not valid.
func checkNoLeast(t *testing.T, of int, s season) {
	t.Helper()
	checkUnits(t, "LeastRoom", of, s, impl.LeastRoom(of, s.come, s.want), -1)
	checkUnits(t, "LeastHeld", of, s, impl.LeastHeld(of, s.come, s.want), -1)
	checkUnits(t, "DeepestNeed", of, s, impl.DeepestNeed(s.come, s.want), -1)
}

func TestOtherLeasts(t *testing.T) {
	for _, s := range fewSeasons() {
		for _, of := range badRooms() {
			checkUnits(t, "LeastRoom", of, s, impl.LeastRoom(of, s.come, s.want), -1)
			checkUnits(t, "LeastHeld", of, s, impl.LeastHeld(of, s.come, s.want), -1)
		}
	}
	for _, s := range badSeasons() {
		for _, of := range append(badRooms(), 0, 1, 500, 20000) {
			checkNoLeast(t, of, s)
		}
	}
}

func TestSureFlow(t *testing.T) {
	d := &dice{seed: 59}
	between := 0
	for _, s := range someSeasons() {
		for _, b := range basinsFor(d, s) {
			want := sureFlow(b, s.come)
			if sure := impl.SureFlow(b, s.come); sure != want {
				t.Errorf("SureFlow(%v, %v) = %d, not %d", b, s.come, sure, want)
			}
			if want > 0 && want < 500 {
				between++
			}
		}
	}
	if between < 1000 {
		t.Errorf("only %d flows are neither 0 nor all units", between)
	}
}

// sureCase is a basin, what comes, and the SureFlow of them.
type sureCase struct {
	b    impl.Basin
	come []int
	sure int
}

func TestSureFlowsByHand(t *testing.T) {
	ten := steady(10, 4)
	cases := []sureCase{
		{basin(20, 0), ten, 10}, {basin(20, 20), ten, 15}, {basin(20, 19), ten, 14}, {basin(20, 4), ten, 11}, {basin(20, 3), ten, 10}, {basin(0, 0), ten, 10},
		{basin(0, 0), []int{5, 9, 3, 8}, 3}, {basin(1, 0), []int{5, 9, 3, 8}, 4}, {basin(20000, 0), []int{5, 9, 3, 8}, 5}, {basin(20000, 20000), []int{5, 9, 3, 8}, 500},
		// No hour without water can be met without room, and the first one not without water at first.
		{basin(0, 0), []int{500, 0, 500}, 0}, {basin(500, 0), []int{500, 0, 500}, 250}, {basin(249, 0), []int{500, 0, 500}, 249}, {basin(20000, 0), []int{0, 500, 500}, 0}, {basin(20000, 7), []int{0, 500, 500}, 7}, {basin(20000, 1), steady(0, 2), 0}, {basin(20000, 2), steady(0, 2), 1},
		{basin(20000, 20000), steady(0, 40), 500}, {basin(20000, 19999), steady(0, 40), 499}, {basin(20000, 20000), steady(0, 41), 487}, {basin(20000, 20000), steady(0, 200), 100}, {basin(20000, 19999), steady(0, 200), 99}, {basin(0, 0), steady(0, 200), 0}, {basin(0, 0), steady(500, 200), 500}, {basin(0, 0), append(steady(500, 199), 499), 499},
	}
	for _, c := range cases {
		if sure := impl.SureFlow(c.b, c.come); sure != c.sure {
			t.Errorf("SureFlow(%v, %v) = %d, not %d", c.b, c.come, sure, c.sure)
		}
	}
}

func TestOtherSureFlows(t *testing.T) {
	for _, b := range badBasins() {
		for _, come := range [][]int{nil, {0}, {500}, steady(10, 4), steady(1, 200)} {
			if sure := impl.SureFlow(b, come); sure != -1 {
				t.Errorf("SureFlow(%v, %v) = %d", b, come, sure)
			}
		}
	}
	for _, b := range fewBasins() {
		for _, come := range badHours() {
			if sure := impl.SureFlow(b, come); sure != -1 {
				t.Errorf("SureFlow(%v, %v) = %d", b, come, sure)
			}
		}
	}
}

func TestDeepestNeed(t *testing.T) {
	needed := 0
	for _, s := range someSeasons() {
		want := s.deepest()
		checkUnits(t, "DeepestNeed", 0, s, impl.DeepestNeed(s.come, s.want), want)
		back := season{reversed(s.come), reversed(s.want)}
		checkUnits(t, "DeepestNeed", 0, back, impl.DeepestNeed(back.come, back.want), want)
		checkUnits(t, "DeepestNeed", 0, s.turned(), impl.DeepestNeed(s.want, s.come), s.turned().deepest())
		if want > 0 && want != s.needBetween(0, len(s.come)) {
			needed++
		}
	}
	if needed < 100 {
		t.Errorf("only %d seasons have a need in a part of them", needed)
	}
}

// needCase is a season and its deepest need.
type needCase struct {
	s    season
	need int
}

func TestNeedsOfSeasonsByHand(t *testing.T) {
	cases := []needCase{
		{season{[]int{10, 30, 0, 0}, []int{5, 5, 10, 10}}, 20}, {season{[]int{5, 5, 10, 10}, []int{10, 30, 0, 0}}, 30}, {season{[]int{0, 0}, []int{5, 8}}, 13},
		{season{nil, nil}, 0}, {season{[]int{0}, []int{0}}, 0}, {season{[]int{9}, []int{3}}, 0}, {season{[]int{3}, []int{9}}, 6}, {season{[]int{500, 500}, []int{499, 0}}, 0},
		// Two needs that are parted count together if less comes between than either of them needs.
		{season{[]int{0, 3, 0}, []int{6, 0, 4}}, 7}, {season{[]int{0, 4, 0}, []int{6, 0, 4}}, 6}, {season{[]int{0, 9, 0}, []int{6, 0, 4}}, 6}, {season{[]int{0, 9, 0}, []int{4, 0, 6}}, 6}, {season{[]int{0, 7, 0}, []int{6, 0, 8}}, 8}, {season{[]int{0, 5, 0}, []int{6, 0, 8}}, 9},
		{season{steady(0, 200), steady(500, 200)}, 100000}, {season{steady(500, 200), steady(0, 200)}, 0}, {season{steady(7, 200), steady(8, 200)}, 200}, {dryAfter(500, 100), 50000}, {dryAfter(500, 100).turned(), 50000},
	}
	for _, c := range cases {
		checkUnits(t, "DeepestNeed", 0, c.s, impl.DeepestNeed(c.s.come, c.s.want), c.need)
	}
}

func TestSumsOf(t *testing.T) {
	for _, s := range someSeasons() {
		want := []int{}
		for i := range s.come {
			want = append(want, total(s.come[:i+1]))
		}
		if sums := impl.SumsOf(s.come); !sameList(sums, want) {
			t.Errorf("SumsOf(%v) = %v", s.come, sums)
		}
	}
	if !isList(impl.SumsOf([]int{3, 0, 4}), 3, 3, 7) || !isList(impl.SumsOf([]int{0}), 0) || !isList(impl.SumsOf([]int{500, 500, 1}), 500, 1000, 1001) {
		t.Error("SumsOf by hand")
	}
	for _, bad := range badHours() {
		if sums := impl.SumsOf(bad); len(sums) != 0 {
			t.Errorf("SumsOf(%v) = %v", bad, sums)
		}
	}
}

func TestAnswersOfBasinsAreNewMemory(t *testing.T) {
	for _, s := range fewSeasons() {
		come := append(copyOf(s.come), 77, 78)
		want := append(copyOf(s.want), 87, 88)
		before := joined(come, want)
		hours := len(s.come)
		for _, b := range fewBasins() {
			gives, _ := impl.RunBasin(b, come[:hours], want[:hours])
			spills := impl.SpillsOf(b, come[:hours], want[:hours])
			kept := joined(gives, spills)
			spoil(impl.SpillsOf(b, come[:hours], want[:hours]))
			again, _ := impl.RunBasin(b, come[:hours], want[:hours])
			spoil(again)
			if !sameList(joined(gives, spills), kept) {
				t.Errorf("the answers for %v in %v share memory", b, s)
			}
			impl.ShortOf(b, come[:hours], want[:hours])
			impl.LeastRoom(b.Held, come[:hours], want[:hours])
			impl.LeastHeld(b.Room, come[:hours], want[:hours])
			impl.SureFlow(b, come[:hours])
		}
		impl.DeepestNeed(come[:hours], want[:hours])
		spoil(impl.SumsOf(come[:hours]))
		if !sameList(joined(come, want), before) {
			t.Errorf("arguments were written to: %v, %v", come, want)
		}
	}
}
