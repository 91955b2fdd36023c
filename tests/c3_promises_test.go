package tests

import (
	"testing"

	"loop.example/watershares/impl"
)

// checkDay checks that a ledger gives the same turns of a day when it is read back from its text, and reports whether it gives any.
func checkDay(t *testing.T, list []impl.Holding) bool {
	t.Helper()
	back, ok := impl.ParseLedger(impl.FormatLedger(list))
	checkLedger(t, "ParseLedger", back, ok, list, true)
	turns, ok := impl.TurnsFor(list, 24)
	again, fine := impl.TurnsFor(back, 24)
	if ok != fine || !sameTurns(turns, again) {
		t.Errorf("TurnsFor(%v) = %v, and %v when it is read back", list, turns, again)
	}
	want, known := sharedTurns(list, 24)
	if ok != known || !sameTurns(turns, want) {
		t.Errorf("TurnsFor(%v) = %v, not %v", list, turns, want)
	}
	if ok && (impl.PeriodOf(turns) != 24 || !impl.ValidTurns(turns)) {
		t.Errorf("the period of %v is %d", turns, impl.PeriodOf(turns))
	}
	return ok
}

func TestP32FromDeedsToATextAndBackToTurns(t *testing.T) {
	d := &dice{seed: 83}
	done := 0
	for _, start := range [][]impl.Holding{{hold(1, 1, 1)}, {hold(1, 1, 2), hold(2, 1, 3), hold(4, 1, 6)}, evenLedger(12, 1), weightLedger(5, 3, 1)} {
		for range 100 {
			deeds, _ := possibleDeeds(start, someDeeds(d))
			after, ok := impl.RunDeeds(start, deeds)
			if !ok {
				t.Fatalf("RunDeeds(%v, %v) fails", start, deeds)
			}
			if checkDay(t, after) {
				done++
			}
		}
	}
	for _, list := range turnLedgers() {
		checkDay(t, list)
	}
	if done < 200 {
		t.Errorf("only %d ledgers give turns", done)
	}
}

func TestP33RotationsCanBeShortened(t *testing.T) {
	for _, list := range someTurns() {
		for i, turn := range list {
			fewer := withoutTurn(list, i)
			if impl.ValidTurns(fewer) != (len(list) > 1) {
				t.Errorf("ValidTurns(%v) = %v", fewer, impl.ValidTurns(fewer))
			}
			if len(list) > 1 && impl.PeriodOf(fewer) != impl.PeriodOf(list)-turn.Hours {
				t.Errorf("PeriodOf(%v) = %d", fewer, impl.PeriodOf(fewer))
			}
		}
	}
}

func TestP34PeriodsAreAllHours(t *testing.T) {
	for _, list := range someTurns() {
		period := impl.PeriodOf(list)
		sum := 0
		for _, owner := range ownersOf(list) {
			sum += impl.HoursIn(list, owner, 0, period)
		}
		last := len(list) - 1
		if sum != period || impl.StartOf(list, last)+list[last].Hours != period || period < len(list) || period > 336 {
			t.Errorf("PeriodOf(%v) = %d, and all hours are %d", list, period, sum)
		}
	}
}

func TestP35TurnsComeAgain(t *testing.T) {
	for _, list := range someTurns() {
		period := impl.PeriodOf(list)
		for at := 0; at+period <= 5000; at++ {
			if impl.WhoAt(list, at) != impl.WhoAt(list, at+period) {
				t.Fatalf("WhoAt(%v) is not the same at %d a period later", list, at)
			}
		}
		for i, turn := range list {
			// In the first period, and in the last one in which the turn begins.
			start := impl.StartOf(list, i)
			late := start + (5000-start)/period*period
			if impl.WhoAt(list, start) != turn.Owner || impl.WhoAt(list, late) != turn.Owner {
				t.Errorf("WhoAt(%v) at %d or %d is not %d", list, start, late, turn.Owner)
			}
		}
	}
}

func TestP36TurnsFollowEachOther(t *testing.T) {
	for _, list := range someTurns() {
		if impl.StartOf(list, 0) != 0 {
			t.Errorf("StartOf(%v, 0) = %d", list, impl.StartOf(list, 0))
		}
		for i := 1; i < len(list); i++ {
			if impl.StartOf(list, i) != impl.StartOf(list, i-1)+list[i-1].Hours {
				t.Errorf("StartOf(%v, %d) = %d", list, i, impl.StartOf(list, i))
			}
		}
	}
}

// checkNext checks that it is the turn of an owner at the next hour from a time on, and at no time between, by the owners of all hours.
func checkNext(t *testing.T, list []impl.Turn, owners []int, owner int, at int) {
	t.Helper()
	next := impl.NextHour(list, owner, at)
	end := next
	if next == -1 {
		end = 5001
	} else if next < at || next > 5000 || owners[next] != owner {
		t.Fatalf("NextHour(%v, %d, %d) = %d", list, owner, at, next)
	}
	for between := at; between < end; between++ {
		if owners[between] == owner {
			t.Fatalf("NextHour(%v, %d, %d) = %d, and not %d", list, owner, at, next, between)
		}
	}
}

func TestP37TheNextHourIsTheNextOne(t *testing.T) {
	for _, list := range someTurns() {
		owners := []int{}
		for at := range 5001 {
			owners = append(owners, impl.WhoAt(list, at))
		}
		for _, owner := range append(ownersOf(list), 500, 0) {
			for _, at := range []int{0, 1, 5, 23, 24, 100, 335, 336, 337, 2500, 4663, 4664, 4990, 4998, 4999, 5000} {
				checkNext(t, list, owners, owner, at)
			}
		}
	}
}

// checkHalves checks that hours and nights of two halves of a span are those of the span.
func checkHalves(t *testing.T, list []impl.Turn, owner int, s span, middle int) {
	t.Helper()
	hours := impl.HoursIn(list, owner, s.from, middle) + impl.HoursIn(list, owner, middle, s.to)
	nights := impl.NightsIn(list, owner, s.from, middle) + impl.NightsIn(list, owner, middle, s.to)
	if impl.HoursIn(list, owner, s.from, s.to) != hours || impl.NightsIn(list, owner, s.from, s.to) != nights {
		t.Errorf("the halves of hours of %d in %v from %d over %d to %d", owner, list, s.from, middle, s.to)
	}
}

func TestP38HoursAddUp(t *testing.T) {
	for _, list := range someTurns() {
		period := impl.PeriodOf(list)
		for _, owner := range append(ownersOf(list), 500) {
			for _, s := range someSpans() {
				for _, middle := range []int{s.from, (s.from + s.to) / 2, s.to} {
					checkHalves(t, list, owner, s, middle)
				}
			}
			for _, from := range []int{0, 1, period, 3*period + period/2, 5000 - period} {
				if from+period <= 5000 && impl.HoursIn(list, owner, from, from+period) != ownHours(list, owner) {
					t.Errorf("HoursIn(%v, %d) in the period from %d on", list, owner, from)
				}
			}
		}
	}
}

func TestP39NightsArePartsOfDays(t *testing.T) {
	for _, list := range someTurns() {
		for _, owner := range append(ownersOf(list), 500) {
			for _, s := range someSpans() {
				nights := impl.NightsIn(list, owner, s.from, s.to)
				if nights < 0 || nights > impl.HoursIn(list, owner, s.from, s.to) {
					t.Errorf("NightsIn(%v, %d, %d, %d) = %d", list, owner, s.from, s.to, nights)
				}
			}
		}
	}
}

func TestP39NightsOfWholeDays(t *testing.T) {
	for _, list := range someTurns() {
		one := len(ownersOf(list)) == 1
		for _, from := range []int{0, 1, 5, 6, 7, 19, 20, 21, 23, 24, 100, 4976} {
			for days := 0; from+24*days <= 5000; days++ {
				sum := 0
				for _, owner := range ownersOf(list) {
					sum += impl.NightsIn(list, owner, from, from+24*days)
				}
				if sum != 10*days {
					t.Errorf("%d nights in %v from %d on for %d days", sum, list, from, days)
				}
				// The sum of all owners would be too slow for all days.
				if !one && days > 3 {
					break
				}
			}
		}
	}
}

func TestP40AllComesAgainAfterTheEvenTime(t *testing.T) {
	later := 0
	for _, list := range someTurns() {
		even := impl.EvenTime(list)
		if even < 1 || even%24 != 0 || even%impl.PeriodOf(list) != 0 {
			t.Fatalf("EvenTime(%v) = %d", list, even)
		}
		for _, s := range someSpans() {
			if s.to+even > 5000 {
				continue
			}
			later++
			for _, owner := range append(ownersOf(list), 500) {
				if impl.HoursIn(list, owner, s.from, s.to) != impl.HoursIn(list, owner, s.from+even, s.to+even) {
					t.Errorf("HoursIn(%v, %d) from %d to %d is not the same %d later", list, owner, s.from, s.to, even)
				}
				if impl.NightsIn(list, owner, s.from, s.to) != impl.NightsIn(list, owner, s.from+even, s.to+even) {
					t.Errorf("NightsIn(%v, %d) from %d to %d is not the same %d later", list, owner, s.from, s.to, even)
				}
			}
		}
	}
	if later < 1000 {
		t.Errorf("only %d spans have one that is later", later)
	}
}

func TestP40NoLessTimeIsEven(t *testing.T) {
	for _, list := range someTurns() {
		even := impl.EvenTime(list)
		for less := 24; less < even; less += 24 {
			if less%impl.PeriodOf(list) == 0 {
				t.Fatalf("EvenTime(%v) = %d, and not %d", list, even, less)
			}
		}
	}
}

func TestP41OverTheEvenTimeNightsAreSharedAsHoursAre(t *testing.T) {
	shared := 0
	lists := append(someTurns(), equalTurns(5, 41), equalTurns(11, 17), equalTurns(1, 205), equalTurns(19, 5), []impl.Turn{run(1, 100), run(2, 3), run(1, 100), run(3, 4)})
	for _, list := range lists {
		period := impl.PeriodOf(list)
		even := impl.EvenTime(list)
		if euclid(period, 24) != 1 || even > 5000 {
			continue
		}
		shared++
		for _, owner := range append(ownersOf(list), 500) {
			if n := impl.NightsIn(list, owner, 0, even); n != 10*ownHours(list, owner) {
				t.Errorf("NightsIn(%v, %d) in %d hours = %d", list, owner, even, n)
			}
			if n := impl.NightsIn(list, owner, 5000-even, 5000); n != 10*ownHours(list, owner) {
				t.Errorf("NightsIn(%v, %d) in the last %d hours = %d", list, owner, even, n)
			}
		}
	}
	if shared < 10 {
		t.Errorf("only %d rotations leave no hour of the day out", shared)
	}
}

func TestP42ExchangesAreUndone(t *testing.T) {
	for _, list := range someTurns() {
		period := impl.PeriodOf(list)
		for i := range list {
			for k := range list {
				swapped := impl.SwapTurns(list, i, k)
				if !impl.ValidTurns(swapped) || len(swapped) != len(list) || swapped[i] != list[k] || swapped[k] != list[i] {
					t.Fatalf("SwapTurns(%v, %d, %d) = %v", list, i, k, swapped)
				}
				checkTurns(t, "SwapTurns of SwapTurns", impl.SwapTurns(swapped, i, k), list)
				checkTurns(t, "SwapTurns the other way round", impl.SwapTurns(list, k, i), swapped)
				for _, owner := range []int{list[i].Owner, list[k].Owner, list[0].Owner, 500} {
					if impl.HoursIn(swapped, owner, 0, period) != impl.HoursIn(list, owner, 0, period) {
						t.Errorf("HoursIn(%v, %d) is not as in %v", swapped, owner, list)
					}
				}
			}
		}
	}
}

func TestP43MergedTurnsAreTheSameHours(t *testing.T) {
	fewer := 0
	for _, list := range someTurns() {
		merged := impl.MergeTurns(list)
		for at := 0; at <= 5000; at++ {
			if impl.WhoAt(merged, at) != impl.WhoAt(list, at) {
				t.Fatalf("WhoAt(%v, %d) is not as in %v", merged, at, list)
			}
		}
		for i := 1; i < len(merged); i++ {
			if merged[i].Owner == merged[i-1].Owner {
				t.Errorf("MergeTurns(%v) = %v", list, merged)
			}
		}
		checkTurns(t, "MergeTurns of MergeTurns", impl.MergeTurns(merged), merged)
		if len(merged) < len(list) {
			fewer++
		}
	}
	if fewer < 20 {
		t.Errorf("only %d rotations have fewer turns when they are merged", fewer)
	}
}

func TestP43TheLastAndTheFirstTurnAreNotMerged(t *testing.T) {
	kept := 0
	for _, list := range someTurns() {
		merged := impl.MergeTurns(list)
		last := len(merged) - 1
		if len(ownersOf(list)) > 1 && list[0].Owner == list[len(list)-1].Owner {
			kept++
			if merged[0].Owner != list[0].Owner || merged[last].Owner != list[0].Owner || last < 2 {
				t.Errorf("MergeTurns(%v) = %v", list, merged)
			}
		}
	}
	if kept < 5 {
		t.Errorf("only %d rotations begin and end with one owner", kept)
	}
}

func TestP44TurnsAreSharesOfThePeriod(t *testing.T) {
	less := 0
	more := 0
	for _, list := range turnLedgers() {
		for _, hours := range []int{1, 2, 3, 7, 12, 24, 25, 100, 167, 336} {
			turns, ok := impl.TurnsFor(list, hours)
			if !ok {
				continue
			}
			if !impl.ValidTurns(turns) || impl.PeriodOf(turns) != hours {
				t.Errorf("TurnsFor(%v, %d) = %v", list, hours, turns)
			}
			for _, h := range list {
				part := impl.PartOf(hours, h.Share)
				own := ownHours(turns, h.Owner)
				if own != part && own != part+1 {
					t.Errorf("TurnsFor(%v, %d) = %v", list, hours, turns)
				}
				if own == 0 {
					less++
				}
				if own > part {
					more++
				}
			}
			checkOrder(t, list, turns)
		}
	}
	if less < 100 || more < 100 {
		t.Errorf("only %d owners have no turn, and %d an hour more", less, more)
	}
}

// checkOrder checks that the owners of turns ascend, and are owners of a ledger.
func checkOrder(t *testing.T, list []impl.Holding, turns []impl.Turn) {
	t.Helper()
	for i, turn := range turns {
		if !hasHolding(list, turn.Owner) || i > 0 && turns[i-1].Owner >= turn.Owner {
			t.Errorf("the turns %v of %v", turns, list)
		}
	}
}

func TestP45WishesMayAllBeAlike(t *testing.T) {
	for _, wishes := range someWishes() {
		alike := [][]int{}
		for i, wish := range wishes {
			alike = append(alike, copyOf(wishes[0]))
			last := len(wish) - 1
			if impl.RankOf(wishes, i, wish[last]) != last {
				t.Errorf("RankOf(%v, %d, %d) = %d", wishes, i, wish[last], impl.RankOf(wishes, i, wish[last]))
			}
		}
		if !impl.ValidWishes(wishes) || !impl.ValidWishes(alike) {
			t.Errorf("ValidWishes(%v) = false", alike)
		}
		// Who has the best one of the turns left keeps it, so that all do.
		if got := impl.TradeTurns(alike); !sameList(got, indices(len(wishes))) {
			t.Errorf("TradeTurns(%v) = %v", alike, got)
		}
	}
}

func TestP46NobodyLosesByTrading(t *testing.T) {
	keep := 0
	trade := 0
	for _, wishes := range someWishes() {
		got := impl.TradeTurns(wishes)
		if len(got) != len(wishes) {
			t.Fatalf("TradeTurns(%v) = %v", wishes, got)
		}
		for i := range wishes {
			if !isOneOf(i, got) || impl.RankOf(wishes, i, got[i]) > impl.RankOf(wishes, i, i) || impl.RankOf(wishes, i, got[i]) < 0 {
				t.Errorf("TradeTurns(%v) = %v", wishes, got)
			}
			if got[i] == i {
				keep++
			} else {
				trade++
			}
		}
	}
	if keep < 500 || trade < 500 {
		t.Errorf("only %d traders keep their turns, and %d do not", keep, trade)
	}
}

// wouldRather reports whether traders could exchange their own turns, each one getting that of the next one, so that none has a worse turn than it got, and one a better one.
func wouldRather(wishes [][]int, got []int, ring ...int) bool {
	better := false
	for k, trader := range ring {
		turn := ring[(k+1)%len(ring)]
		now := placeIn(wishes[trader], got[trader])
		then := placeIn(wishes[trader], turn)
		if then > now {
			return false
		}
		better = better || then < now
	}
	return better
}

func TestP47NoTwoOrThreeWouldRatherTradeAmongThemselves(t *testing.T) {
	tempting := 0
	for _, wishes := range someWishes() {
		got := impl.TradeTurns(wishes)
		own := indices(len(wishes))
		for a := range wishes {
			for b := range wishes {
				if a == b {
					continue
				}
				if wouldRather(wishes, got, a, b) {
					t.Errorf("%d and %d would rather trade than TradeTurns(%v) = %v", a, b, wishes, got)
				}
				for c := range wishes {
					if c == a || c == b {
						continue
					}
					if wouldRather(wishes, got, a, b, c) {
						t.Errorf("%d, %d and %d would rather trade than TradeTurns(%v) = %v", a, b, c, wishes, got)
					}
					if wouldRather(wishes, own, a, b, c) {
						tempting++
					}
				}
			}
		}
	}
	if tempting < 500 {
		t.Errorf("only %d rings of three are better than no trade", tempting)
	}
}

// checkTruth checks that a trader gains nothing by a false wish.
func checkTruth(t *testing.T, wishes [][]int, got []int, trader int, wish []int) {
	t.Helper()
	lies := copyWishes(wishes)
	lies[trader] = wish
	after := impl.TradeTurns(lies)
	if len(after) != len(wishes) || placeIn(wishes[trader], after[trader]) < placeIn(wishes[trader], got[trader]) {
		t.Errorf("with TradeTurns(%v) = %v the trader %d gains, as TradeTurns(%v) = %v", lies, after, trader, wishes, got)
	}
}

func TestP48NobodyGainsByFalseWishes(t *testing.T) {
	for _, wishes := range someWishes() {
		got := impl.TradeTurns(wishes)
		for trader, wish := range wishes {
			checkTruth(t, wishes, got, trader, reversed(wish))
			for i := 1; i < len(wish); i++ {
				checkTruth(t, wishes, got, trader, exchanged(wish, i, i-1))
			}
		}
	}
}

func TestP48NobodyGainsByAnyWishes(t *testing.T) {
	d := &dice{seed: 97}
	lists := append(allWishes(2), allWishes(3)...)
	for range 150 {
		lists = append(lists, madeWishes(d, 4))
	}
	for _, wishes := range lists {
		got := impl.TradeTurns(wishes)
		for trader := range wishes {
			for _, order := range allOrders(len(wishes)) {
				checkTruth(t, wishes, got, trader, order)
			}
		}
	}
}

func TestP49RanksArePlaces(t *testing.T) {
	for _, wishes := range someWishes() {
		for i, wish := range wishes {
			for turn := range wishes {
				rank := impl.RankOf(wishes, i, turn)
				if rank < 0 || rank >= len(wish) || wish[rank] != turn {
					t.Errorf("RankOf(%v, %d, %d) = %d", wishes, i, turn, rank)
				}
			}
		}
	}
}
