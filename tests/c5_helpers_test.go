package tests

import (
	"testing"

	"loop.example/watershares/impl"
)

// basin returns a basin.
func basin(room int, held int) impl.Basin {
	return impl.Basin{Room: room, Held: held}
}

// season is some hours: what comes and what is wanted in each.
type season struct {
	come []int
	want []int
}

// steady returns so many hours with the same number of units in each.
func steady(units int, hours int) []int {
	list := []int{}
	for range hours {
		list = append(list, units)
	}
	return list
}

// joined returns some lists one after the other.
func joined(lists ...[]int) []int {
	all := []int{}
	for _, list := range lists {
		all = append(all, list...)
	}
	return all
}

// dryAfter returns a season in which units come for some hours in which nothing is wanted, and are wanted for as many hours in which nothing comes.
func dryAfter(units int, hours int) season {
	full := steady(units, hours)
	none := steady(0, hours)
	return season{joined(full, none), joined(none, full)}
}

// then returns a season with one hour more.
func (s season) then(come int, want int) season {
	return season{append(copyOf(s.come), come), append(copyOf(s.want), want)}
}

// turned returns the season in which comes what is wanted, and is wanted what comes.
func (s season) turned() season {
	return season{copyOf(s.want), copyOf(s.come)}
}

// part returns some hours of a season.
func (s season) part(from int, to int) season {
	return season{s.come[from:to], s.want[from:to]}
}

// fewSeasons returns seasons made by hand, those at the limits among them.
func fewSeasons() []season {
	return []season{
		{nil, nil}, {[]int{}, nil},
		{[]int{0}, []int{0}}, {[]int{0}, []int{1}}, {[]int{1}, []int{0}}, {[]int{0}, []int{500}}, {[]int{500}, []int{0}}, {[]int{500}, []int{500}}, {[]int{7}, []int{8}}, {[]int{8}, []int{7}},
		{[]int{10, 30, 0, 0}, []int{5, 5, 10, 10}}, {[]int{5, 5, 10, 10}, []int{10, 30, 0, 0}}, {[]int{0, 0}, []int{5, 8}}, {[]int{5, 8}, []int{0, 0}},
		// Needs that are parted by water, of which the last one, the first one, and both together are the deepest.
		{[]int{0, 9, 0}, []int{4, 0, 6}}, {[]int{0, 9, 0}, []int{6, 0, 4}}, {[]int{0, 3, 0}, []int{6, 0, 4}}, {[]int{0, 4, 0}, []int{6, 0, 4}}, {[]int{0, 5, 0}, []int{6, 0, 4}}, {[]int{3, 0, 9, 0, 2, 0}, []int{0, 5, 0, 6, 0, 6}},
		{steady(0, 200), steady(0, 200)}, {steady(500, 200), steady(500, 200)}, {steady(500, 200), steady(0, 200)}, {steady(0, 200), steady(500, 200)}, {steady(7, 200), steady(8, 200)}, {steady(8, 200), steady(7, 200)},
		// The greatest room is just enough, or just too small.
		{steady(0, 40), steady(500, 40)}, {steady(0, 41), append(steady(500, 40), 1)}, {steady(0, 41), append([]int{1}, steady(500, 40)...)}, {steady(0, 200), steady(100, 200)}, {steady(0, 200), append(steady(100, 199), 101)},
		dryAfter(500, 40), dryAfter(500, 41), dryAfter(500, 100), dryAfter(200, 100), dryAfter(500, 40).then(0, 1), dryAfter(500, 40).then(1, 1), dryAfter(1, 1), dryAfter(3, 5), dryAfter(3, 5).then(2, 3),
		dryAfter(500, 40).turned(), dryAfter(500, 41).turned(), dryAfter(200, 100).turned(),
	}
}

// madeUnits returns a number of units without a pattern; in some seasons they are few, and in some there are many hours without any.
func madeUnits(d *dice, kind int) int {
	switch kind {
	case 0:
		return d.roll(8)
	case 1:
		return d.roll(2) * d.roll(30)
	case 2:
		return d.roll(501)
	default:
		return d.roll(2) * 500
	}
}

// madeSeason returns hours without a pattern, which in some seasons are all wet or dry for a while.
func madeSeason(d *dice, hours int) season {
	made := season{}
	kind := d.roll(4)
	wave := 1 + d.roll(12)
	wavy := d.roll(2) == 0
	for i := range hours {
		come := madeUnits(d, kind)
		want := madeUnits(d, kind)
		if wavy && i/wave%2 == 0 {
			want = 0
		} else if wavy {
			come = come / 4
		}
		made = made.then(come, want)
	}
	return made
}

// someSeasons returns seasons of many kinds.
func someSeasons() []season {
	list := fewSeasons()
	d := &dice{seed: 41}
	for hours := 1; hours <= 30; hours++ {
		for range 8 {
			list = append(list, madeSeason(d, hours))
		}
	}
	for range 12 {
		list = append(list, madeSeason(d, 60+d.roll(140)), madeSeason(d, 200))
	}
	return list
}

// fewBasins returns valid basins made by hand, those at the limits among them.
func fewBasins() []impl.Basin {
	return []impl.Basin{
		basin(0, 0), basin(1, 0), basin(1, 1), basin(2, 1), basin(7, 3), basin(20, 0), basin(20, 20), basin(500, 499), basin(500, 500), basin(501, 250),
		basin(19990, 0), basin(19990, 19990), basin(19999, 19999), basin(20000, 0), basin(20000, 1), basin(20000, 10000), basin(20000, 19999), basin(20000, 20000),
	}
}

// basinsFor returns valid basins, those among them whose room, or water, is near to the needs of a season.
func basinsFor(d *dice, s season) []impl.Basin {
	list := fewBasins()
	for _, near := range []int{s.deepest(), s.firstNeed(), s.laterNeed()} {
		for room := max(0, near-1); room <= min(20000, near+1); room++ {
			list = append(list, basin(room, 0), basin(room, room), basin(room, d.roll(room+1)))
		}
		for held := max(0, near-1); held <= min(20000, near+1); held++ {
			list = append(list, basin(held+d.roll(20001-held), held))
		}
	}
	return list
}

// badBasins returns basins that are not valid.
func badBasins() []impl.Basin {
	return []impl.Basin{
		basin(0, 1), basin(1, 2), basin(0, -1), basin(5, -1), basin(20000, -1), basin(20000, 20001), basin(-1, 0), basin(-1, -1), basin(-1, -2), basin(-5, -3), basin(20001, 0), basin(20001, 20000), basin(20001, 20001),
		basin(greatestInt, 0), basin(greatestInt, greatestInt), basin(20000, greatestInt), basin(0, greatestInt), basin(leastInt, 0), basin(leastInt, leastInt), basin(0, leastInt), basin(20000, leastInt), basin(greatestInt, leastInt),
	}
}

// badRooms returns numbers that are no rooms of basins.
func badRooms() []int {
	return []int{-1, -2, -20000, 20001, 20002, 100000, greatestInt, leastInt}
}

// badHours returns flows that are not those of the hours of a list.
func badHours() [][]int {
	list := [][]int{steady(0, 201), steady(1, 201), steady(500, 201), steady(3, 202), steady(0, 5000)}
	for _, bad := range badCounts() {
		list = append(list, []int{bad}, []int{bad, 1}, []int{1, bad}, []int{1, 2, bad, 3}, append(steady(5, 199), bad), append([]int{bad}, steady(5, 199)...))
	}
	return list
}

// badSeasons returns seasons that are not valid: one of their lists is not, or one is longer than the other one.
func badSeasons() []season {
	list := []season{
		{nil, []int{0}}, {[]int{0}, nil}, {nil, []int{5, 8}}, {[]int{5, 8}, nil}, {[]int{1, 2, 3}, []int{1, 2}}, {[]int{1, 2}, []int{1, 2, 3}},
		{steady(1, 200), steady(1, 199)}, {steady(1, 199), steady(1, 200)}, {steady(1, 201), steady(1, 200)}, {steady(1, 200), steady(1, 201)}, {nil, steady(0, 200)}, {steady(0, 200), nil},
	}
	for _, bad := range badHours() {
		good := steady(1, len(bad))
		list = append(list, season{bad, good}, season{good, bad}, season{bad, bad})
	}
	return list
}

// needBetween returns what is wanted less what comes in some hours next to each other.
func (s season) needBetween(from int, to int) int {
	return total(s.want[from:to]) - total(s.come[from:to])
}

// greatestNeed returns the greatest need of the hours that begin with an hour in from..to, 0 if none is greater.
func (s season) greatestNeed(from int, to int) int {
	greatest := 0
	for i := from; i <= to; i++ {
		need := 0
		for k := i; k < len(s.come); k++ {
			need += s.want[k] - s.come[k]
			greatest = max(greatest, need)
		}
	}
	return greatest
}

// deepest returns the greatest need of all hours next to each other.
func (s season) deepest() int {
	return s.greatestNeed(0, len(s.come)-1)
}

// firstNeed returns the greatest need of the hours that begin with the first one, for which there is the water at first, whatever the room.
func (s season) firstNeed() int {
	return s.greatestNeed(0, 0)
}

// laterNeed returns the greatest need of the hours that begin later, for which there can be as much water as there is room.
func (s season) laterNeed() int {
	return s.greatestNeed(1, len(s.come)-1)
}

// leastRoom tells LeastRoom by the needs of all hours next to each other, instead of by trying.
func (s season) leastRoom(held int) int {
	room := max(held, s.laterNeed())
	if s.firstNeed() > held || room > 20000 {
		return -1
	}
	return room
}

// leastHeld tells LeastHeld by the needs of all hours next to each other, instead of by trying.
func (s season) leastHeld(room int) int {
	if s.deepest() > room {
		return -1
	}
	return s.firstNeed()
}

// sureFlow tells SureFlow by what there can be for all hours next to each other, instead of by trying.
func sureFlow(b impl.Basin, come []int) int {
	sure := 500
	for i := range come {
		there := b.Room
		if i == 0 {
			there = b.Held
		}
		for k := i; k < len(come); k++ {
			there += come[k]
			sure = min(sure, there/(k-i+1))
		}
	}
	return sure
}

// hourOf tells StepBasin unit by unit: units are given while they are wanted, and spill while there is no room.
func hourOf(b impl.Basin, come int, want int) (impl.Basin, int, int) {
	held := b.Held + come
	give := 0
	for give < want && held > 0 {
		held--
		give++
	}
	spill := 0
	for held > b.Room {
		held--
		spill++
	}
	return basin(b.Room, held), give, spill
}

// course tells what a basin gives and spills in each hour of a season, the basin at the end, and what is lacking in all.
type course struct {
	gives  []int
	spills []int
	end    impl.Basin
	lacks  int
}

// courseOf tells RunBasin, SpillsOf and ShortOf unit by unit.
func courseOf(b impl.Basin, s season) course {
	c := course{end: b}
	for i := range s.come {
		after, give, spill := hourOf(c.end, s.come[i], s.want[i])
		c.gives = append(c.gives, give)
		c.spills = append(c.spills, spill)
		c.end = after
		c.lacks += s.want[i] - give
	}
	return c
}

// short returns ShortOf a basin with a room and water in a season.
func short(room int, held int, s season) int {
	return impl.ShortOf(basin(room, held), s.come, s.want)
}

// checkUnits checks a number of units of a season against the one that is expected.
func checkUnits(t *testing.T, name string, of int, s season, got int, want int) {
	t.Helper()
	if got != want {
		t.Errorf("%s of %d and %v = %d, not %d", name, of, s, got, want)
	}
}
