package tests

import (
	"testing"

	"loop.example/watershares/impl"
)

func TestValidTurns(t *testing.T) {
	for _, list := range someTurns() {
		if !impl.ValidTurns(list) {
			t.Errorf("ValidTurns(%v) = false", list)
		}
	}
	for _, list := range badTurns() {
		if impl.ValidTurns(list) {
			t.Errorf("ValidTurns(%v) = true", list)
		}
	}
}

func TestValidTurnsOfChangedTurns(t *testing.T) {
	owners := []int{0, 1, 999, 1000, -5}
	for _, list := range someTurns() {
		for i, turn := range list {
			changed := copyTurns(list)
			for _, owner := range owners {
				changed[i].Owner = owner
				if impl.ValidTurns(changed) != isGoodOwner(owner) {
					t.Errorf("ValidTurns(%v) is not %v", changed, isGoodOwner(owner))
				}
			}
			changed[i] = run(turn.Owner, 0)
			if impl.ValidTurns(changed) {
				t.Errorf("ValidTurns(%v) = true", changed)
			}
			changed[i] = run(turn.Owner, 336-(periodSum(list)-turn.Hours))
			if !impl.ValidTurns(changed) || impl.PeriodOf(changed) != 336 {
				t.Errorf("ValidTurns(%v) = false", changed)
			}
			changed[i].Hours++
			if impl.ValidTurns(changed) || impl.PeriodOf(changed) != -1 {
				t.Errorf("ValidTurns(%v) = true", changed)
			}
		}
	}
}

func TestPeriodOf(t *testing.T) {
	for _, list := range someTurns() {
		if period := impl.PeriodOf(list); period != periodSum(list) {
			t.Errorf("PeriodOf(%v) = %d", list, period)
		}
	}
	if impl.PeriodOf(equalTurns(24, 14)) != 336 || impl.PeriodOf([]impl.Turn{run(1, 3), run(2, 5), run(1, 2)}) != 10 {
		t.Error("PeriodOf")
	}
}

func TestWhoAt(t *testing.T) {
	for _, list := range someTurns() {
		for at, owner := range hoursFrom(list) {
			if who := impl.WhoAt(list, at); who != owner {
				t.Fatalf("WhoAt(%v, %d) = %d, not %d", list, at, who, owner)
			}
		}
		for _, at := range badTimes() {
			if who := impl.WhoAt(list, at); who != -1 {
				t.Errorf("WhoAt(%v, %d) = %d", list, at, who)
			}
		}
	}
}

func TestStartOf(t *testing.T) {
	for _, list := range someTurns() {
		start := 0
		for i, turn := range list {
			if impl.StartOf(list, i) != start {
				t.Errorf("StartOf(%v, %d) = %d, not %d", list, i, impl.StartOf(list, i), start)
			}
			start += turn.Hours
		}
		for _, at := range []int{-1, len(list), len(list) + 1, 24, greatestInt, leastInt} {
			if impl.StartOf(list, at) != -1 {
				t.Errorf("StartOf(%v, %d) = %d", list, at, impl.StartOf(list, at))
			}
		}
	}
}

// nextHours returns, for each time, what NextHour of an owner should return, from the last time back.
func nextHours(list []impl.Turn, owner int) []int {
	owners := hoursFrom(list)
	next := make([]int, len(owners))
	last := -1
	for at := len(owners) - 1; at >= 0; at-- {
		if owners[at] == owner {
			last = at
		}
		next[at] = last
	}
	return next
}

func TestNextHour(t *testing.T) {
	for i, list := range someTurns() {
		for _, owner := range askedOwners(list) {
			for at, want := range nextHours(list, owner) {
				// All times at the ends, and some of those between.
				if at > 400 && at < 4600 && (at+i)%37 > 0 {
					continue
				}
				if next := impl.NextHour(list, owner, at); next != want {
					t.Fatalf("NextHour(%v, %d, %d) = %d, not %d", list, owner, at, next, want)
				}
			}
			for _, at := range badTimes() {
				if next := impl.NextHour(list, owner, at); next != -1 {
					t.Errorf("NextHour(%v, %d, %d) = %d", list, owner, at, next)
				}
			}
		}
	}
}

func TestNextHourAtTheLastTime(t *testing.T) {
	list := []impl.Turn{run(1, 3), run(2, 5), run(1, 2)}
	if impl.NextHour(list, 1, 5000) != 5000 || impl.NextHour(list, 2, 5000) != -1 || impl.NextHour(list, 2, 4998) != -1 || impl.NextHour(list, 2, 4997) != 4997 {
		t.Error("NextHour at the last time, which is the first one of a period")
	}
	// The turn of 2 begins at 5000, and at 5001 if that of 1 is an hour longer.
	if impl.NextHour([]impl.Turn{run(1, 200), run(2, 100)}, 2, 4900) != 5000 || impl.NextHour([]impl.Turn{run(1, 201), run(2, 99)}, 2, 4900) != -1 {
		t.Error("NextHour of a turn that begins at the last time, or after it")
	}
}

func TestHoursInAndNightsIn(t *testing.T) {
	for _, list := range someTurns() {
		for _, owner := range askedOwners(list) {
			hours, nights := countsOf(list, owner)
			for _, s := range someSpans() {
				if n := impl.HoursIn(list, owner, s.from, s.to); n != hours[s.to]-hours[s.from] {
					t.Errorf("HoursIn(%v, %d, %d, %d) = %d", list, owner, s.from, s.to, n)
				}
				if n := impl.NightsIn(list, owner, s.from, s.to); n != nights[s.to]-nights[s.from] {
					t.Errorf("NightsIn(%v, %d, %d, %d) = %d", list, owner, s.from, s.to, n)
				}
			}
		}
	}
}

func TestHoursOfOtherSpans(t *testing.T) {
	for _, list := range someTurns() {
		for _, owner := range askedOwners(list) {
			for _, s := range badSpans() {
				if impl.HoursIn(list, owner, s.from, s.to) != -1 || impl.NightsIn(list, owner, s.from, s.to) != -1 {
					t.Errorf("hours of %d in %v from %d to %d", owner, list, s.from, s.to)
				}
			}
		}
	}
}

func TestNightsAtTheEndsOfTheDay(t *testing.T) {
	day := equalTurns(24, 1)
	for hour := range 24 {
		want := 0
		if hour < 6 || hour >= 20 {
			want = 1
		}
		for _, from := range []int{0, 24, 4800} {
			owner := hour + 1
			if impl.NightsIn(day, owner, from, from+24) != want || impl.HoursIn(day, owner, from, from+24) != 1 {
				t.Errorf("the hour %d of the day from %d on is in the night: %v", hour, from, want == 0)
			}
			if n := impl.NightsIn([]impl.Turn{run(1, 7)}, 1, from+hour, from+hour+1); n != want {
				t.Errorf("NightsIn of the hour %d of the day from %d on = %d", hour, from, n)
			}
		}
	}
	if impl.NightsIn(day, 6, 5, 6) != 1 || impl.NightsIn(day, 7, 6, 7) != 0 || impl.NightsIn(day, 20, 19, 20) != 0 || impl.NightsIn(day, 21, 20, 21) != 1 {
		t.Error("the hours next to the ends of the night")
	}
}

// evenHours finds the least time that is a number of periods and of days, by adding what is behind.
func evenHours(period int) int {
	periods := period
	days := 24
	for periods != days {
		if periods < days {
			periods += period
		} else {
			days += 24
		}
	}
	return periods
}

func TestEvenTime(t *testing.T) {
	for _, list := range someTurns() {
		if even := impl.EvenTime(list); even != evenHours(periodSum(list)) {
			t.Errorf("EvenTime(%v) = %d", list, even)
		}
	}
	for period := 1; period <= 336; period++ {
		if even := impl.EvenTime([]impl.Turn{run(8, period)}); even != evenHours(period) {
			t.Errorf("EvenTime of the period %d = %d", period, even)
		}
	}
	if impl.EvenTime([]impl.Turn{run(1, 335)}) != 8040 || impl.EvenTime([]impl.Turn{run(1, 336)}) != 336 || impl.EvenTime([]impl.Turn{run(1, 1)}) != 24 {
		t.Error("EvenTime at the limits")
	}
}

func TestSwapTurns(t *testing.T) {
	for _, list := range someTurns() {
		for i := range list {
			for k := range list {
				want := copyTurns(list)
				want[i] = list[k]
				want[k] = list[i]
				checkTurns(t, "SwapTurns", impl.SwapTurns(list, i, k), want)
			}
			for _, k := range []int{-1, len(list), len(list) + 1, greatestInt, leastInt} {
				if len(impl.SwapTurns(list, i, k)) != 0 || len(impl.SwapTurns(list, k, i)) != 0 || len(impl.SwapTurns(list, k, k)) != 0 {
					t.Errorf("SwapTurns(%v) of %d and %d", list, i, k)
				}
			}
		}
	}
}

func TestMergeTurns(t *testing.T) {
	lists := [][]impl.Turn{
		{run(1, 3)}, {run(1, 3), run(1, 4)}, {run(1, 3), run(2, 4), run(1, 5)}, {run(1, 3), run(1, 4), run(2, 5), run(2, 6), run(1, 7), run(1, 8)},
		{run(5, 2), run(5, 3), run(5, 4)}, {run(1, 1), run(2, 1), run(2, 1), run(2, 1), run(3, 1)}, {run(9, 168), run(9, 168)}, equalTurns(24, 14),
	}
	want := [][]impl.Turn{
		{run(1, 3)}, {run(1, 7)}, {run(1, 3), run(2, 4), run(1, 5)}, {run(1, 7), run(2, 11), run(1, 15)},
		{run(5, 9)}, {run(1, 1), run(2, 3), run(3, 1)}, {run(9, 336)}, equalTurns(24, 14),
	}
	for i, list := range lists {
		checkTurns(t, "MergeTurns", impl.MergeTurns(list), want[i])
	}
	same := []impl.Turn{}
	for range 24 {
		same = append(same, run(4, 14))
	}
	checkTurns(t, "MergeTurns of all turns", impl.MergeTurns(same), []impl.Turn{run(4, 336)})
}

func TestOtherRotations(t *testing.T) {
	for _, list := range badTurns() {
		if impl.PeriodOf(list) != -1 || impl.EvenTime(list) != -1 || len(impl.MergeTurns(list)) != 0 {
			t.Errorf("%v has a period", list)
		}
		for _, n := range []int{-1, 0, 1, 2, 24, 5000, 5001} {
			if impl.WhoAt(list, n) != -1 || impl.StartOf(list, n) != -1 || impl.NextHour(list, 1, n) != -1 || impl.NextHour(list, n, 0) != -1 {
				t.Errorf("%v has hours at %d", list, n)
			}
			if impl.HoursIn(list, 1, 0, n) != -1 || impl.NightsIn(list, 1, 0, n) != -1 || impl.HoursIn(list, n, 0, 0) != -1 || impl.NightsIn(list, n, 0, 0) != -1 {
				t.Errorf("%v has hours before %d", list, n)
			}
			if len(impl.SwapTurns(list, 0, n)) != 0 || len(impl.SwapTurns(list, n, n)) != 0 {
				t.Errorf("SwapTurns(%v) is a rotation", list)
			}
		}
	}
}

func TestTurnsFor(t *testing.T) {
	told := 0
	untold := 0
	for _, list := range turnLedgers() {
		for _, hours := range []int{1, 2, 5, 7, 11, 12, 13, 24, 100, 168, 335, 336} {
			want, fine := sharedTurns(list, hours)
			got, ok := impl.TurnsFor(list, hours)
			if ok != fine || !sameTurns(got, want) {
				t.Errorf("TurnsFor(%v, %d) = %v, %v, not %v", list, hours, got, ok, want)
			}
			if ok {
				told++
			} else {
				untold++
			}
		}
	}
	if told < 500 || untold < 200 {
		t.Errorf("only %d ledgers have turns, and %d have none", told, untold)
	}
}

// checkNoTurns checks that there are no turns for a ledger.
func checkNoTurns(t *testing.T, list []impl.Holding, hours int) {
	t.Helper()
	if turns, ok := impl.TurnsFor(list, hours); ok || len(turns) != 0 {
		t.Errorf("TurnsFor(%v, %d) = %v, %v", list, hours, turns, ok)
	}
}

func TestLimitsOfTurnsFor(t *testing.T) {
	got, ok := impl.TurnsFor(weightLedger(1, 1000), 336)
	if want := []impl.Turn{run(15, 336)}; !ok || !sameTurns(got, want) {
		t.Errorf("TurnsFor with 1000 units = %v", got)
	}
	got, ok = impl.TurnsFor(weightLedger(999, 1000), 336)
	if want := []impl.Turn{run(5, 168), run(15, 168)}; !ok || !sameTurns(got, want) {
		t.Errorf("TurnsFor with 999 and 1000 units = %v", got)
	}
	got, ok = impl.TurnsFor([]impl.Holding{hold(999, 1, 1)}, 336)
	if want := []impl.Turn{run(999, 336)}; !ok || !sameTurns(got, want) {
		t.Errorf("TurnsFor of one owner = %v", got)
	}
	got, ok = impl.TurnsFor(evenLedger(12, 1), 11)
	if !ok || !sameTurns(got, equalTurns(11, 1)) {
		t.Errorf("TurnsFor of more owners than hours = %v", got)
	}
	for _, hours := range []int{1, 24, 336} {
		checkNoTurns(t, weightLedger(1, 1001), hours)
		checkNoTurns(t, weightLedger(1001, 1002), hours)
		checkNoTurns(t, greatDen(), hours)
		checkNoTurns(t, tooGreatDen(), hours)
		checkNoTurns(t, hugeDen(), hours)
	}
}

func TestTurnsForOtherArguments(t *testing.T) {
	for _, hours := range []int{0, -1, 337, 500, 501, greatestInt, leastInt} {
		checkNoTurns(t, []impl.Holding{hold(1, 1, 1)}, hours)
		checkNoTurns(t, evenLedger(12, 1), hours)
		checkNoTurns(t, nil, hours)
	}
	for _, list := range badLedgers() {
		for _, hours := range []int{1, 24, 336} {
			checkNoTurns(t, list, hours)
		}
	}
}

func TestValidWishes(t *testing.T) {
	for _, wishes := range someWishes() {
		if !impl.ValidWishes(wishes) {
			t.Errorf("ValidWishes(%v) = false", wishes)
		}
	}
	for _, wishes := range badWishes() {
		if impl.ValidWishes(wishes) {
			t.Errorf("ValidWishes(%v) = true", wishes)
		}
		if len(impl.TradeTurns(wishes)) != 0 {
			t.Errorf("TradeTurns(%v) = %v", wishes, impl.TradeTurns(wishes))
		}
		for i := -1; i <= 9; i++ {
			if impl.RankOf(wishes, i, 0) != -1 || impl.RankOf(wishes, 0, i) != -1 || impl.RankOf(wishes, i, i) != -1 {
				t.Errorf("RankOf(%v, %d) is a place", wishes, i)
			}
		}
	}
}

func TestValidWishesOfChangedWishes(t *testing.T) {
	for _, wishes := range fewWishes() {
		for i, wish := range wishes {
			for k, turn := range wish {
				for other := -1; other <= len(wishes); other++ {
					changed := copyWishes(wishes)
					changed[i][k] = other
					if impl.ValidWishes(changed) != (other == turn) {
						t.Errorf("ValidWishes(%v) is not %v", changed, other == turn)
					}
				}
			}
			longer := copyWishes(wishes)
			longer[i] = append(longer[i], len(wishes))
			shorter := copyWishes(wishes)
			shorter[i] = shorter[i][:len(wishes)-1]
			if impl.ValidWishes(longer) || impl.ValidWishes(shorter) {
				t.Errorf("ValidWishes with a wish more, or fewer, than in %v", wishes)
			}
		}
	}
}

func TestTradeTurns(t *testing.T) {
	for _, wishes := range someWishes() {
		if got := impl.TradeTurns(wishes); !sameList(got, tradedTurns(wishes)) {
			t.Errorf("TradeTurns(%v) = %v, not %v", wishes, got, tradedTurns(wishes))
		}
	}
}

func TestTradesByHand(t *testing.T) {
	lists := [][][]int{
		nil, {{0}}, {{1, 0}, {0, 1}}, {{1, 0}, {1, 0}}, {{1, 2, 0}, {2, 0, 1}, {0, 1, 2}}, {{2, 1, 0}, {2, 0, 1}, {1, 0, 2}},
		// A chain to a trader who keeps the turn: all keep theirs in the end.
		{{1, 0, 2, 3}, {2, 1, 0, 3}, {3, 2, 0, 1}, {3, 0, 1, 2}},
		// After the pair of 0 and 1 is gone, 2 and 3 point to each other.
		{{1, 0, 2, 3}, {0, 1, 2, 3}, {0, 3, 1, 2}, {1, 0, 2, 3}},
		// Two circles at once, and one who is left.
		{{1, 0, 2, 3, 4}, {0, 1, 2, 3, 4}, {3, 0, 1, 2, 4}, {2, 0, 1, 3, 4}, {0, 1, 2, 3, 4}},
		{{7, 6, 5, 4, 3, 2, 1, 0}, {7, 6, 5, 4, 3, 2, 1, 0}, {7, 6, 5, 4, 3, 2, 1, 0}, {7, 6, 5, 4, 3, 2, 1, 0}, {0, 6, 5, 4, 3, 2, 1, 7}, {0, 1, 2, 3, 4, 5, 6, 7}, {1, 2, 0, 3, 4, 5, 6, 7}, {4, 6, 5, 7, 3, 2, 1, 0}},
		ringWishes(8, 1), ringWishes(8, 7), ringWishes(8, 0), ringWishes(8, 4),
	}
	want := [][]int{
		{}, {0}, {1, 0}, {0, 1}, {1, 2, 0}, {0, 2, 1},
		{0, 1, 2, 3},
		{1, 0, 3, 2},
		{1, 0, 3, 2, 4},
		{7, 6, 5, 3, 0, 2, 1, 4},
		{1, 2, 3, 4, 5, 6, 7, 0}, {7, 0, 1, 2, 3, 4, 5, 6}, {0, 1, 2, 3, 4, 5, 6, 7}, {4, 5, 6, 7, 0, 1, 2, 3},
	}
	for i, wishes := range lists {
		if got := impl.TradeTurns(wishes); !sameList(got, want[i]) {
			t.Errorf("TradeTurns(%v) = %v, not %v", wishes, got, want[i])
		}
	}
}

func TestRankOf(t *testing.T) {
	for _, wishes := range someWishes() {
		for i, wish := range wishes {
			for turn := range wishes {
				if rank := impl.RankOf(wishes, i, turn); rank != placeIn(wish, turn) {
					t.Errorf("RankOf(%v, %d, %d) = %d", wishes, i, turn, rank)
				}
			}
			for _, other := range []int{-1, len(wishes), greatestInt, leastInt} {
				if impl.RankOf(wishes, i, other) != -1 || impl.RankOf(wishes, other, i) != -1 || impl.RankOf(wishes, other, other) != -1 {
					t.Errorf("RankOf(%v) of %d and %d", wishes, i, other)
				}
			}
		}
	}
	if impl.RankOf(nil, 0, 0) != -1 {
		t.Error("RankOf without traders")
	}
}

// spoilTurns writes over a rotation, and into spare memory behind it.
func spoilTurns(list []impl.Turn) {
	for i := range list {
		list[i] = run(-99, -99)
	}
	longer := append(list, run(-99, -99), run(-99, -99))
	longer[0] = run(-99, -99)
}

func TestTurnsAreNewMemory(t *testing.T) {
	want := []impl.Turn{run(1, 3), run(1, 5), run(2, 2), run(77, 77), run(78, 78)}
	store := copyTurns(want)
	list := store[:3]
	spoilTurns(impl.SwapTurns(list, 0, 2))
	spoilTurns(impl.SwapTurns(list, 1, 1))
	spoilTurns(impl.MergeTurns(list))
	spoilTurns(impl.MergeTurns(list[1:]))
	if !sameTurns(store, want) {
		t.Errorf("arguments were written to: %v", store)
	}
	first := impl.MergeTurns(list)
	spoilTurns(impl.MergeTurns(list))
	checkTurns(t, "MergeTurns", first, []impl.Turn{run(1, 8), run(2, 2)})
	ledger := append(evenLedger(3, 1), hold(77, 1, 77))
	turns, ok := impl.TurnsFor(ledger[:3], 24)
	if !ok {
		t.Error("TurnsFor fails")
	}
	spoilTurns(turns)
	if !sameLedger(ledger, append(evenLedger(3, 1), hold(77, 1, 77))) {
		t.Errorf("arguments were written to: %v", ledger)
	}
	again, ok := impl.TurnsFor(ledger[:3], 24)
	if !ok || !sameTurns(again, equalTurns(3, 8)) {
		t.Errorf("TurnsFor = %v", again)
	}
}

func TestTradesAreNewMemory(t *testing.T) {
	for _, wishes := range fewWishes() {
		store := append(copyWishes(wishes), []int{77}, []int{78})
		for i := range wishes {
			store[i] = append(store[i], 77, 78)[:len(wishes)]
		}
		got := impl.TradeTurns(store[:len(wishes)])
		if len(wishes) > 0 {
			spoil(got)
		}
		if !sameWishes(store, append(copyWishes(wishes), []int{77}, []int{78})) {
			t.Errorf("wishes were written to: %v", store)
		}
		for i := range wishes {
			if longer := store[i][:len(wishes)+2]; longer[len(wishes)] != 77 || longer[len(wishes)+1] != 78 {
				t.Errorf("memory behind wishes was written to: %v", longer)
			}
		}
		if again := impl.TradeTurns(wishes); !sameList(again, tradedTurns(wishes)) {
			t.Errorf("TradeTurns(%v) = %v", wishes, again)
		}
	}
}
