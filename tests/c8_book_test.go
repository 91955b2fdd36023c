package tests

import (
	"testing"

	"loop.example/watershares/impl"
)

func TestValidTown(t *testing.T) {
	for _, s := range someTowns() {
		if !impl.ValidTown(s) || !isTown(s) {
			t.Errorf("ValidTown(%v) = false", s)
		}
	}
	for _, s := range badTowns() {
		if impl.ValidTown(s) || isTown(s) {
			t.Errorf("ValidTown(%v) = true", s)
		}
	}
}

// changedTowns returns a town with one number of it changed, in many ways, and with another number to balance it.
func changedTowns(s impl.Town) []impl.Town {
	list := []impl.Town{}
	for _, step := range []int{-1000000, -501, -1, 1, 2, 501, 1000000} {
		for field := range 6 {
			changed := copyTown(s)
			switch field {
			case 0:
				changed.Rate += step
			case 1:
				changed.Time += step
			case 2:
				changed.Lost += step
			case 3:
				changed.Basin.Held += step
			case 4:
				changed.Basin.Room += step
			case 5:
				changed.Came += step
			}
			list = append(list, changed, balanced(changed))
		}
		for i := range s.Accounts[:min(5, len(s.Accounts))] {
			changed := copyTown(s)
			changed.Accounts[i].Units += step
			other := copyTown(s)
			other.Accounts[i].Owner += step
			list = append(list, changed, balanced(changed), other)
		}
	}
	return list
}

func TestValidTownOfChangedTowns(t *testing.T) {
	valid := 0
	for _, s := range someTowns() {
		for _, changed := range changedTowns(s) {
			fine := isTown(changed)
			if impl.ValidTown(changed) != fine {
				t.Errorf("ValidTown(%v) = %v", changed, !fine)
			}
			if fine {
				valid++
			}
		}
	}
	if valid < 1000 {
		t.Errorf("only %d changed towns are valid", valid)
	}
}

// checkValid checks whether a town is valid.
func checkValid(t *testing.T, s impl.Town, fine bool) {
	t.Helper()
	if impl.ValidTown(s) != fine {
		t.Errorf("ValidTown(%v) = %v", s, !fine)
	}
}

func TestLimitsOfTowns(t *testing.T) {
	s := market()
	checkValid(t, withRate(s, 500), true)
	checkValid(t, withRate(s, 501), false)
	checkValid(t, withRate(s, -1), false)
	checkValid(t, atTime(s, 5000), true)
	checkValid(t, atTime(s, 5001), false)
	checkValid(t, atTime(s, -1), false)
	checkValid(t, withLost(s, 999943), true)
	checkValid(t, withLost(s, 999944), false)
	checkValid(t, withLost(s, -1), false)
	checkValid(t, withLost(hamlet(1, 0, 0), 1000000), true)
	checkValid(t, withLost(hamlet(1, 0, 0), 1000001), false)
	checkValid(t, withAccounts(hamlet(1, 0, 0), account(5, 1000000)), true)
	checkValid(t, withAccounts(hamlet(1, 0, 0), account(5, 1000001)), false)
	checkValid(t, withAccounts(s, account(1, 1), account(999, 1)), true)
	checkValid(t, withAccounts(s, account(0, 1), account(999, 1)), false)
	checkValid(t, withAccounts(s, account(1, 1), account(1000, 1)), false)
	checkValid(t, withAccounts(s, account(5, 1), account(6, 1)), true)
	checkValid(t, withAccounts(s, account(5, 1), account(5, 1)), false)
	checkValid(t, withAccounts(s, account(5, 0)), false)
	checkValid(t, withAccounts(s, allAccounts(1)...), true)
	checkValid(t, withBasin(s, basin(20000, 20000)), true)
	checkValid(t, withBasin(s, basin(20001, 20000)), false)
	checkValid(t, withBasin(s, basin(30, 31)), false)
}

func TestNewTown(t *testing.T) {
	for _, owner := range []int{1, 2, 500, 998, 999} {
		for _, room := range []int{0, 1, 30, 19999, 20000} {
			for _, rate := range []int{0, 1, 15, 499, 500} {
				checkTown(t, "NewTown", impl.NewTown(owner, room, rate), true, hamlet(owner, room, rate), true)
			}
		}
	}
	for _, owner := range []int{0, -1, 1000, greatestInt, leastInt} {
		checkNoTown(t, "NewTown of no owner", impl.NewTown(owner, 30, 15), false)
	}
	for _, room := range []int{-1, 20001, greatestInt, leastInt} {
		checkNoTown(t, "NewTown without such a basin", impl.NewTown(1, room, 15), false)
	}
	for _, rate := range badCounts() {
		checkNoTown(t, "NewTown in which so much is wanted", impl.NewTown(1, 30, rate), false)
	}
}

func TestApplyEvent(t *testing.T) {
	d := &dice{seed: 167}
	done := steady(0, 6)
	not := steady(0, 6)
	for _, s := range someTowns() {
		for range 3 {
			for _, e := range eventsFor(d, s) {
				got, ok := impl.ApplyEvent(s, e)
				want, fine := townAfter(s, e)
				checkTown(t, "ApplyEvent", got, ok, want, fine)
				if fine {
					done[e.Kind]++
				} else {
					not[e.Kind]++
				}
			}
		}
	}
	for kind := range done {
		if done[kind] < 300 || not[kind] < 80 {
			t.Errorf("only %d events of the kind %d are possible, and %d are not", done[kind], kind, not[kind])
		}
	}
}

func TestHoursOfTowns(t *testing.T) {
	spilled := 0
	nothing := 0
	opened := 0
	for _, c := range someChronicles() {
		for i, e := range c.events {
			before := c.towns[i]
			after := c.towns[i+1]
			got, ok := impl.ApplyEvent(before, e)
			checkTown(t, "ApplyEvent", got, ok, after, true)
			if e.Kind != impl.EvHour {
				continue
			}
			if after.Basin.Held == after.Basin.Room && after.Lost > before.Lost {
				spilled++
			}
			if sameAccounts(before.Accounts, after.Accounts) {
				nothing++
			}
			if len(after.Accounts) > len(before.Accounts) {
				opened++
			}
		}
	}
	if spilled < 100 || nothing < 100 || opened < 50 {
		t.Errorf("only %d times something spills, %d times nothing is given, and %d times there is a new account", spilled, nothing, opened)
	}
}

// afterEvent checks that an event is possible in a town, and returns the town after it.
func afterEvent(t *testing.T, s impl.Town, e impl.Event) impl.Town {
	t.Helper()
	after, ok := impl.ApplyEvent(s, e)
	if !ok {
		t.Errorf("ApplyEvent(%v, %v) is not possible", s, e)
	}
	return after
}

// hourOfMarket returns the market after an hour, in which it has another basin, accounts, and units that are lost.
func hourOfMarket(held int, lost int, came int, list ...impl.Account) impl.Town {
	s := market()
	s.Basin.Held = held
	s.Lost += lost
	s.Came += came
	s.Time++
	s.Accounts = list
	return s
}

func TestHoursByHand(t *testing.T) {
	// The owner 3 has no account yet; 3 units are lost, and 26 spill.
	after := afterEvent(t, market(), evHour(62))
	checkTown(t, "an hour that spills", after, true, hourOfMarket(30, 29, 62, account(1, 40), account(3, 15), account(7, 5)), true)
	after = afterEvent(t, market(), evHour(92))
	checkTown(t, "an hour with too much water for a node", after, true, hourOfMarket(30, 22+37, 92, account(1, 40), account(3, 15), account(7, 5)), true)
	after = afterEvent(t, market(), evHour(3))
	checkTown(t, "an hour in which most is lost", after, true, hourOfMarket(0, 3, 3, account(1, 40), account(3, 12), account(7, 5)), true)
	after = afterEvent(t, market(), evHour(0))
	checkTown(t, "an hour that brings nothing", after, true, hourOfMarket(0, 0, 0, account(1, 40), account(3, 12), account(7, 5)), true)
	// In the next hours it is the turn of the owner 1, who has an account, but nothing is held any more.
	after = afterEvent(t, after, evHour(0))
	checkTown(t, "an hour without any water", after, true, atTime(hourOfMarket(0, 0, 0, account(1, 40), account(3, 12), account(7, 5)), 19), true)
	after = afterEvent(t, after, evHour(13))
	checkTown(t, "an hour of an owner with an account", after, true, atTime(hourOfMarket(0, 3, 13, account(1, 50), account(3, 12), account(7, 5)), 20), true)
	after = afterEvent(t, withRate(market(), 0), evHour(13))
	checkTown(t, "an hour in which nothing is wanted", after, true, withRate(hourOfMarket(22, 3, 13, account(1, 40), account(7, 5)), 0), true)
}

func TestHoursWithoutAccounts(t *testing.T) {
	s := hamlet(5, 0, 10)
	after := afterEvent(t, s, evHour(0))
	checkTown(t, "an hour that brings nothing", after, true, atTime(hamlet(5, 0, 10), 1), true)
	after = afterEvent(t, after, evHour(500))
	checkTown(t, "the first units", after, true, atTime(withLost(withAccounts(s, account(5, 10)), 490), 2), true)
	shut := withNodes(s, starOf(0, 0))
	after = afterEvent(t, shut, evHour(500))
	checkTown(t, "an hour with all gates shut", after, true, atTime(withLost(shut, 500), 1), true)
	after = afterEvent(t, withRate(s, 0), evHour(7))
	checkTown(t, "an hour in which nothing is wanted or kept", after, true, atTime(withRate(withLost(s, 7), 0), 1), true)
	kept := afterEvent(t, withBasin(withRate(s, 0), basin(7, 0)), evHour(8))
	checkTown(t, "an hour in which all is kept", kept, true, atTime(withRate(withLost(withBasin(s, basin(7, 7)), 1), 0), 1), true)
	for _, owner := range []int{1, 4, 6, 999} {
		more := withAccounts(withBasin(s, basin(9, 4)), account(owner, 30))
		list := []impl.Account{account(min(owner, 5), 30), account(max(owner, 5), 30)}
		list[indexFor(owner, 5)].Units = 6
		after = afterEvent(t, more, evHour(2))
		checkTown(t, "an account beside another one", after, true, atTime(withAccounts(withBasin(s, basin(9, 0)), list...), 1), true)
	}
}

// indexFor returns the index of an owner in the accounts of this owner and another one.
func indexFor(other int, owner int) int {
	if other < owner {
		return 1
	}
	return 0
}

func TestLimitsOfHours(t *testing.T) {
	last := atTime(market(), 4999)
	if after := afterEvent(t, last, evHour(5)); after.Time != 5000 {
		t.Errorf("ApplyEvent(%v) = %v", last, after)
	}
	got, ok := impl.ApplyEvent(atTime(market(), 5000), evHour(0))
	checkNoTown(t, "an hour after the last time", got, ok)
	// All units come, are in one account, or are lost, up to the limit.
	full := withAccounts(hamlet(5, 0, 500), account(5, 999800))
	after := afterEvent(t, full, evHour(200))
	checkTown(t, "an hour with as many units as there can be", after, true, atTime(withAccounts(full, account(5, 1000000)), 1), true)
	got, ok = impl.ApplyEvent(full, evHour(201))
	checkNoTown(t, "an hour with too many units", got, ok)
	lost := withLost(withRate(hamlet(5, 0, 0), 0), 999800)
	after = afterEvent(t, lost, evHour(200))
	checkTown(t, "an hour in which as much is lost as can be", after, true, atTime(withLost(lost, 1000000), 1), true)
	got, ok = impl.ApplyEvent(lost, evHour(201))
	checkNoTown(t, "an hour in which too much is lost", got, ok)
	other := withAccounts(hamlet(5, 0, 500), account(6, 1000000))
	after = afterEvent(t, other, evHour(0))
	checkTown(t, "an hour that brings nothing at the limit", after, true, atTime(other, 1), true)
	got, ok = impl.ApplyEvent(other, evHour(1))
	checkNoTown(t, "an hour with one unit too many", got, ok)
	for _, bad := range badCounts() {
		for _, s := range []impl.Town{market(), hamlet(5, 20000, 500), hamlet(5, 0, 0), withNodes(market(), starOf(0, 0))} {
			got, ok = impl.ApplyEvent(s, evHour(bad))
			checkNoTown(t, "an hour with no such number of units", got, ok)
		}
	}
}

func TestDeedsOfTowns(t *testing.T) {
	s := market()
	after := afterEvent(t, s, evDeed(inherit(1, 3, 9)))
	checkTown(t, "a deed with heirs", after, true, withLedger(s, []impl.Holding{hold(3, 7, 12), hold(7, 1, 6), hold(9, 1, 4)}), true)
	after = afterEvent(t, s, evDeed(sell(1, 2, 1, 4)))
	checkTown(t, "a deed by which a part is sold", after, true, withLedger(s, []impl.Holding{hold(1, 1, 4), hold(2, 1, 4), hold(3, 1, 3), hold(7, 1, 6)}), true)
	after = afterEvent(t, s, evDeed(join(7, 3)))
	checkTown(t, "a deed by which a share is joined", after, true, withLedger(s, []impl.Holding{hold(1, 1, 2), hold(3, 1, 2)}), true)
	for _, deed := range []impl.Deed{inherit(1), inherit(1, 1), inherit(2, 1), inherit(1, 3, 3), sell(1, 2, 3, 4), sell(2, 1, 1, 4), sell(1, 2, 0, 1), join(2, 1), join(1, 1), {Kind: 3, Owner: 1, Other: 2, Part: frac(1, 4), Heirs: []int{2}}} {
		got, ok := impl.ApplyEvent(s, evDeed(deed))
		checkNoTown(t, "a deed that is not possible", got, ok)
	}
}

func TestTurnsOfTowns(t *testing.T) {
	s := market()
	after := afterEvent(t, s, evTurns(12))
	checkTown(t, "turns anew", after, true, withTurns(s, []impl.Turn{run(1, 6), run(3, 4), run(7, 2)}), true)
	after = afterEvent(t, s, evTurns(1))
	checkTown(t, "a turn of one hour", after, true, withTurns(s, []impl.Turn{run(1, 1)}), true)
	after = afterEvent(t, s, evTurns(336))
	checkTown(t, "turns of the longest period", after, true, withTurns(s, []impl.Turn{run(1, 168), run(3, 112), run(7, 56)}), true)
	after = afterEvent(t, s, evSwap(1, 3))
	checkTown(t, "two turns of one owner", after, true, withTurns(s, []impl.Turn{run(7, 2), run(1, 6), run(3, 1), run(1, 3)}), true)
	after = afterEvent(t, s, evSwap(3, 0))
	checkTown(t, "the last turn and the first one", after, true, withTurns(s, []impl.Turn{run(1, 6), run(1, 3), run(3, 1), run(7, 2)}), true)
	after = afterEvent(t, s, evSwap(2, 2))
	checkTown(t, "one turn", after, true, s, true)
	for _, e := range []impl.Event{evTurns(0), evTurns(337), evSwap(0, 4), evSwap(4, 0), evSwap(-1, 0), evSwap(0, -1)} {
		got, ok := impl.ApplyEvent(s, e)
		checkNoTown(t, "turns that are not possible", got, ok)
	}
	for _, list := range [][]impl.Holding{{hold(1, 1, 1001), hold(2, 1000, 1001)}, hugeDen(), tooGreatDen()} {
		got, ok := impl.ApplyEvent(withLedger(s, list), evTurns(24))
		_, fine := sharedTurns(list, 24)
		checkTown(t, "turns of great units", got, ok, withTurns(withLedger(s, list), []impl.Turn{run(2, 24)}), fine)
	}
	got, ok := impl.ApplyEvent(withLedger(s, []impl.Holding{hold(1, 1, 1002), hold(2, 1001, 1002)}), evTurns(24))
	checkNoTown(t, "turns of units that are too great", got, ok)
}

func TestChannelsOfTowns(t *testing.T) {
	s := market()
	after := afterEvent(t, s, evGate(1, 7))
	checkTown(t, "a gate", after, true, withNodes(s, withWeightAt(s.Nodes, 1, 7)), true)
	after = afterEvent(t, s, evGate(0, 1000))
	checkTown(t, "the gate of the spring", after, true, withNodes(s, withWeightAt(s.Nodes, 0, 1000)), true)
	after = afterEvent(t, s, evGate(2, 0))
	checkTown(t, "a gate that is shut", after, true, withNodes(s, withWeightAt(s.Nodes, 2, 0)), true)
	after = afterEvent(t, s, evDig(2, 1000))
	checkTown(t, "a new channel", after, true, withNodes(s, append(s.Nodes, gate(2, 1000))), true)
	after = afterEvent(t, s, evDig(0, 0))
	checkTown(t, "a new channel that is shut", after, true, withNodes(s, append(s.Nodes, gate(0, 0))), true)
	eleven := withNodes(s, lineOf(11, 1, 500))
	after = afterEvent(t, eleven, evDig(10, 1))
	checkTown(t, "the twelfth node", after, true, withNodes(s, append(lineOf(11, 1, 500), gate(10, 1))), true)
	got, ok := impl.ApplyEvent(after, evDig(10, 1))
	checkNoTown(t, "the thirteenth node", got, ok)
	for _, e := range []impl.Event{evGate(3, 1), evGate(-1, 1), evGate(0, -1), evGate(0, 1001), evDig(3, 1), evDig(-1, 1), evDig(0, -1), evDig(0, 1001)} {
		got, ok = impl.ApplyEvent(s, e)
		checkNoTown(t, "a channel that is not possible", got, ok)
	}
}

func TestEventsThatAreNotPossible(t *testing.T) {
	for _, s := range someTowns() {
		for _, e := range badEvents() {
			got, ok := impl.ApplyEvent(s, e)
			checkNoTown(t, "ApplyEvent", got, ok)
		}
	}
	possible := []impl.Event{evDeed(join(1, 2)), evDeed(sell(1, 2, 1, 2)), evDeed(inherit(1, 2, 3)), evTurns(24), evSwap(0, 0), evGate(0, 1), evDig(0, 1), evHour(10), evHour(0)}
	for _, s := range badTowns() {
		for _, e := range possible {
			got, ok := impl.ApplyEvent(s, e)
			checkNoTown(t, "ApplyEvent to no town", got, ok)
		}
	}
}

// undressedEvents returns events for a town, in which what they do not name has the zero value.
func undressedEvents(d *dice, s impl.Town) []impl.Event {
	list := []impl.Event{}
	for _, e := range eventsFor(d, s) {
		list = append(list, undressed(e))
	}
	return list
}

func TestEventsLookOnlyAtTheirOwn(t *testing.T) {
	d := &dice{seed: 173}
	many := make([]int, 1000)
	for _, s := range someTowns() {
		for _, e := range undressedEvents(d, s) {
			want, fine := impl.ApplyEvent(s, e)
			for _, n := range []int{1, 9999, 10000, -1, greatestInt, leastInt} {
				got, ok := impl.ApplyEvent(s, dressed(e, n, n, frac(n, n), many))
				checkTown(t, "ApplyEvent with other numbers", got, ok, want, fine)
			}
			got, ok := impl.ApplyEvent(s, dressed(e, 0, 1, frac(1, 2), []int{2, 3}))
			checkTown(t, "ApplyEvent with a good deed", got, ok, want, fine)
		}
	}
}

func TestRunBook(t *testing.T) {
	events := 0
	for _, c := range someChronicles() {
		got, ok := impl.RunBook(c.start(), c.events)
		checkTown(t, "RunBook", got, ok, c.end(), true)
		events += len(c.events)
		for _, bad := range []impl.Event{evHour(501), evSwap(0, 24), evDeed(inherit(1)), {Kind: 6}} {
			for _, at := range []int{0, len(c.events) / 2, len(c.events)} {
				spoiled := append(append([]impl.Event{}, c.events[:at]...), bad)
				got, ok = impl.RunBook(c.start(), append(spoiled, c.events[at:]...))
				checkNoTown(t, "RunBook with an event that is not possible", got, ok)
			}
		}
	}
	if events < 700 {
		t.Errorf("only %d events are possible", events)
	}
	if c := chronicleOf(hamlet(1, 30, 15), longAgo()...); len(c.events) != len(longAgo()) {
		t.Errorf("only the events %v are possible", c.events)
	}
}

func TestRunBookByHand(t *testing.T) {
	got, ok := impl.RunBook(hamlet(1, 30, 15), longAgo()[:10])
	want := impl.Town{
		Ledger: []impl.Holding{hold(1, 2, 3), hold(2, 1, 3)}, Turns: []impl.Turn{run(2, 8), run(1, 16)}, Nodes: []impl.Node{spring(0, 500), gate(0, 0)},
		Basin: basin(30, 0), Accounts: []impl.Account{account(1, 30), account(2, 45)}, Rate: 15, Time: 5, Lost: 25, Came: 100,
	}
	checkTown(t, "RunBook", got, ok, want, true)
	got, ok = impl.RunBook(hamlet(1, 30, 15), longAgo())
	want = impl.Town{
		Ledger: []impl.Holding{hold(2, 2, 3), hold(7, 1, 3)}, Turns: []impl.Turn{run(2, 6), run(7, 3)}, Nodes: []impl.Node{spring(0, 500), gate(0, 3), gate(0, 2)},
		Basin: basin(30, 0), Accounts: []impl.Account{account(1, 30), account(2, 67), account(7, 45)}, Rate: 15, Time: 11, Lost: 865, Came: 1007,
	}
	checkTown(t, "RunBook of deeds with heirs", got, ok, want, true)
}

func TestLimitOfBooks(t *testing.T) {
	s := hamlet(7, 0, 5)
	for _, e := range []impl.Event{evHour(5), evSwap(0, 0), evTurns(24), evGate(0, 1)} {
		c := chronicleOf(s, timesEvent(e, 60)...)
		got, ok := impl.RunBook(s, timesEvent(e, 60))
		checkTown(t, "RunBook of 60 events", got, ok, c.end(), true)
		got, ok = impl.RunBook(s, timesEvent(e, 61))
		checkNoTown(t, "RunBook of 61 events", got, ok)
		got, ok = impl.RunBook(s, timesEvent(e, 10000))
		checkNoTown(t, "RunBook of many events", got, ok)
	}
	for _, s := range fewTowns() {
		got, ok := impl.RunBook(s, nil)
		checkTown(t, "RunBook without events", got, ok, s, true)
		got, ok = impl.RunBook(s, []impl.Event{})
		checkTown(t, "RunBook without events", got, ok, s, true)
	}
	for _, s := range badTowns() {
		got, ok := impl.RunBook(s, nil)
		checkNoTown(t, "RunBook of no town", got, ok)
		got, ok = impl.RunBook(s, []impl.Event{evGate(0, 1), evHour(10)})
		checkNoTown(t, "RunBook of no town", got, ok)
	}
	late := atTime(market(), 4998)
	got, ok := impl.RunBook(late, timesEvent(evHour(0), 2))
	checkTown(t, "RunBook up to the last time", got, ok, chronicleOf(late, timesEvent(evHour(0), 2)...).end(), true)
	got, ok = impl.RunBook(late, timesEvent(evHour(0), 3))
	checkNoTown(t, "RunBook beyond the last time", got, ok)
}

func TestUnitsTo(t *testing.T) {
	for _, s := range someTowns() {
		table := steady(0, 1001)
		for _, a := range s.Accounts {
			table[a.Owner] = a.Units
		}
		for owner, units := range table {
			if got := impl.UnitsTo(s, owner); got != units {
				t.Errorf("UnitsTo(%v, %d) = %d, not %d", s, owner, got, units)
			}
		}
		for _, owner := range []int{-1, 1000, 999999, greatestInt, leastInt} {
			if got := impl.UnitsTo(s, owner); got != 0 {
				t.Errorf("UnitsTo(%v, %d) = %d", s, owner, got)
			}
		}
	}
	for _, s := range badTowns() {
		for _, owner := range []int{1, 2, 3, 7, 0, 999, -1, 1000} {
			if got := impl.UnitsTo(s, owner); got != -1 {
				t.Errorf("UnitsTo(%v, %d) = %d", s, owner, got)
			}
		}
	}
}

func TestFormatEvent(t *testing.T) {
	for _, en := range someEntries() {
		if text := impl.FormatEvent(en.event); text != en.text {
			t.Errorf("FormatEvent(%v) = %q, not %q", en.event, text, en.text)
		}
	}
}

// checkEventText checks that an event has a text, or that it has none.
func checkEventText(t *testing.T, e impl.Event, text string) {
	t.Helper()
	if got := impl.FormatEvent(e); got != text {
		t.Errorf("FormatEvent(%v) = %q, not %q", e, got, text)
	}
}

func TestEventsWithoutTexts(t *testing.T) {
	checkEventText(t, impl.Event{}, "")
	for _, en := range fewEntries() {
		for _, bad := range []int{-1, 10000, greatestInt, leastInt} {
			e := en.event
			e.At = bad
			checkEventText(t, e, "")
			e = en.event
			e.Number = bad
			checkEventText(t, e, "")
		}
		for _, kind := range []int{-1, 6, 7, greatestInt, leastInt} {
			e := en.event
			e.Kind = kind
			checkEventText(t, e, "")
		}
	}
}

func TestDeedsWithoutTexts(t *testing.T) {
	for _, bad := range []int{0, -1, 1000, greatestInt, leastInt} {
		for _, deed := range []impl.Deed{sell(bad, 1, 1, 2), sell(1, bad, 1, 2), join(bad, 1), join(1, bad), inherit(bad, 1), inherit(bad), inherit(1, bad), inherit(1, 2, bad), inherit(1, bad, 2)} {
			checkEventText(t, evDeed(deed), "")
		}
	}
	for _, f := range badFracs() {
		checkEventText(t, evDeed(sell(1, 2, f.Num, f.Den)), "")
	}
	for _, kind := range []int{-1, 3, 4, greatestInt, leastInt} {
		checkEventText(t, evDeed(impl.Deed{Kind: kind, Owner: 1, Other: 2, Part: frac(1, 2), Heirs: []int{2}}), "")
	}
	many := steady(1, 100000)
	for _, count := range []int{13, 14, 100, 100000} {
		checkEventText(t, evDeed(inherit(1, many[:count]...)), "")
		checkEventText(t, evDeed(impl.Deed{Kind: impl.DeSell, Owner: 1, Other: 2, Part: frac(1, 2), Heirs: many[:count]}), "")
		checkEventText(t, evDeed(impl.Deed{Kind: impl.DeJoin, Owner: 1, Other: 2, Heirs: many[:count]}), "")
	}
}

func TestTextsNameOnlyTheirOwn(t *testing.T) {
	strange := append(steady(-5, 11), 1000)
	for _, en := range someEntries() {
		for _, n := range []int{0, 1, 7, 9999} {
			checkEventText(t, dressed(en.event, n, 999, frac(n, 5), strange), en.text)
			checkEventText(t, dressed(en.event, n, 1, frac(-1, n), nil), en.text)
		}
	}
	// Only an event that is no deed may have a deed without a text.
	for _, e := range []impl.Event{evTurns(5), evHour(5), evSwap(5, 5), evGate(5, 5), evDig(5, 5)} {
		text := impl.FormatEvent(e)
		e.Deed = impl.Deed{Kind: 77, Owner: -5, Other: 7000, Part: frac(7, 0), Heirs: steady(0, 1000)}
		checkEventText(t, e, text)
	}
	checkEventText(t, evDeed(impl.Deed{Kind: impl.DeInherit, Owner: 5, Other: -5, Part: frac(7, 0)}), "inherit 5")
	checkEventText(t, evDeed(impl.Deed{Kind: impl.DeInherit, Owner: 5, Other: 1000, Heirs: []int{7}}), "inherit 5 7")
	checkEventText(t, evDeed(impl.Deed{Kind: impl.DeJoin, Owner: 5, Other: 6, Part: frac(7, 0), Heirs: twelve(-1)}), "join 5 6")
	checkEventText(t, evDeed(impl.Deed{Kind: impl.DeSell, Owner: 5, Other: 6, Part: frac(1, 7), Heirs: twelve(1000)}), "sell 5 6 1/7")
}

func TestParseEvent(t *testing.T) {
	for _, en := range someEntries() {
		e, ok := impl.ParseEvent(en.text)
		if !ok || !sameEvent(e, en.event) {
			t.Errorf("ParseEvent(%q) = %v, %v", en.text, e, ok)
		}
	}
	for _, text := range otherTexts() {
		e, ok := impl.ParseEvent(text)
		if ok || !sameEvent(e, impl.Event{}) {
			t.Errorf("ParseEvent(%q) = %v, %v", text, e, ok)
		}
	}
}

func TestParseEventOfSpoiledTexts(t *testing.T) {
	valid := 0
	not := 0
	for _, en := range someEntries()[:160] {
		for _, text := range spoiledTexts(en.text) {
			fine := isEventText(text)
			e, ok := impl.ParseEvent(text)
			if ok != fine || fine && impl.FormatEvent(e) != text || !fine && !sameEvent(e, impl.Event{}) {
				t.Errorf("ParseEvent(%q) = %v, %v", text, e, ok)
			}
			if fine {
				valid++
			} else {
				not++
			}
		}
	}
	if valid < 3000 || not < 10000 {
		t.Errorf("only %d texts are those of events, and %d are not", valid, not)
	}
}

func TestParseEventOfLongTexts(t *testing.T) {
	for _, c := range []byte{' ', '0', '1', '/', '\n', 'i'} {
		huge := make([]byte, 1000000)
		for i := range huge {
			huge[i] = c
		}
		for _, before := range []string{"", "hour ", "inherit 1 ", "sell 1 2 1/2", "inherit 1 1 1 1 1 1 1 1 1 1 1 1 1"} {
			if e, ok := impl.ParseEvent(before + string(huge)); ok || !sameEvent(e, impl.Event{}) {
				t.Errorf("ParseEvent = %v, %v", e, ok)
			}
		}
	}
}

func TestFormatBook(t *testing.T) {
	list := someEntries()
	for _, count := range []int{0, 1, 2, 30, 59, 60} {
		for from := 0; from+count <= len(list); from += 37 {
			part := list[from : from+count]
			if text := impl.FormatBook(eventsIn(part)); text != texted(part) {
				t.Errorf("FormatBook(%v) = %q", eventsIn(part), text)
			}
		}
	}
	for _, count := range []int{61, 62, 120, 300} {
		if text := impl.FormatBook(eventsIn(list[:count])); text != "" {
			t.Errorf("FormatBook of %d events = %q", count, text)
		}
	}
	if impl.FormatBook(nil) != "" || impl.FormatBook(timesEvent(evHour(5), 10000)) != "" {
		t.Error("FormatBook of no events, or of many")
	}
	for _, bad := range []impl.Event{{}, {Kind: 6}, evHour(-1), evHour(10000), evDeed(inherit(1, 0)), evDeed(sell(1, 2, 2, 4))} {
		for _, at := range []int{0, 1, 20, 58} {
			events := eventsIn(list[:59])
			events[at] = bad
			if text := impl.FormatBook(events); text != "" {
				t.Errorf("FormatBook(%v) = %q", events, text)
			}
		}
		if text := impl.FormatBook([]impl.Event{bad}); text != "" {
			t.Errorf("FormatBook(%v) = %q", bad, text)
		}
	}
}

// checkRecovered checks the events of a book against those that are expected.
func checkRecovered(t *testing.T, book string, want []impl.Event) {
	t.Helper()
	if got := impl.RecoverBook(book); !sameEvents(got, want) {
		t.Errorf("RecoverBook(%q) = %v, not %v", book, got, want)
	}
}

func TestRecoverBook(t *testing.T) {
	list := someEntries()
	for _, count := range []int{0, 1, 2, 30, 59, 60} {
		part := list[:count]
		checkRecovered(t, texted(part), eventsIn(part))
		for _, bad := range append(otherTexts(), "hour 5 ", "inherit 1 2 0") {
			if countOf(bad, '\n') == 0 {
				checkRecovered(t, texted(part)+bad, eventsIn(part))
				checkRecovered(t, texted(part)+bad+"\nhour 5\n", eventsIn(part))
			}
		}
		checkRecovered(t, texted(part)+"hour 5", eventsIn(part))
	}
	for _, count := range []int{61, 62, 120, 300} {
		checkRecovered(t, texted(list[:count]), eventsIn(list[:60]))
		checkRecovered(t, texted(list[:60])+"what\n"+texted(list[60:count]), eventsIn(list[:60]))
	}
}

func TestRecoverBookByHand(t *testing.T) {
	checkRecovered(t, "", nil)
	checkRecovered(t, "\n", nil)
	checkRecovered(t, "hour 5", nil)
	checkRecovered(t, "hour 5\n", []impl.Event{evHour(5)})
	checkRecovered(t, "hour 5\nhour 6", []impl.Event{evHour(5)})
	checkRecovered(t, "hour 5\nhour 6\n", []impl.Event{evHour(5), evHour(6)})
	checkRecovered(t, "hour 5\nhours\nhour 6\n", []impl.Event{evHour(5)})
	checkRecovered(t, "hour 5\n\nhour 6\n", []impl.Event{evHour(5)})
	checkRecovered(t, "\nhour 5\n", nil)
	checkRecovered(t, "hour 5\r\nhour 6\r\n", nil)
	checkRecovered(t, "hour 5\nhour 6\r\n", []impl.Event{evHour(5)})
	checkRecovered(t, "hour 5 \n", nil)
	checkRecovered(t, "hour 5\n hour 6\n", []impl.Event{evHour(5)})
	checkRecovered(t, "inherit 1\ninherit 1 2 3\nsell 1 2 1/2\njoin 2 1\nin", []impl.Event{evDeed(inherit(1)), evDeed(inherit(1, 2, 3)), evDeed(sell(1, 2, 1, 2)), evDeed(join(2, 1))})
}

func TestRecoverBookOfTornBooks(t *testing.T) {
	list := someEntries()[:70]
	book := texted(list)
	for cut := range len(book) + 1 {
		lines := countOf(book[:cut], '\n')
		checkRecovered(t, book[:cut], eventsIn(list[:min(60, lines)]))
	}
	huge := make([]byte, 1000000)
	for i := range huge {
		huge[i] = "hour 5\n"[i%7]
	}
	checkRecovered(t, string(huge), timesEvent(evHour(5), 60))
	for i := range huge {
		huge[i] = '\n'
	}
	checkRecovered(t, texted(list[:50])+string(huge), eventsIn(list[:50]))
	for i := range huge {
		huge[i] = '7'
	}
	checkRecovered(t, texted(list[:50])+string(huge)+"\nhour 5\n", eventsIn(list[:50]))
}

// deskAnswers tells what the desk answers about a town after its book.
func deskAnswers(s impl.Town, lines []string) string {
	answers := ""
	for _, line := range lines {
		answers += deskAnswer(s, line) + "\n"
	}
	return answers
}

// deskAnswer tells what the desk answers to a line.
func deskAnswer(s impl.Town, line string) string {
	switch line {
	case "who":
		return written(hoursFrom(s.Turns)[s.Time])
	case "lost":
		return written(s.Lost)
	case "came":
		return written(s.Came)
	case "held":
		return written(s.Basin.Held)
	case "ledger":
		text := ""
		for i, h := range s.Ledger {
			if i > 0 {
				text += ","
			}
			text += written(h.Owner) + " " + written(h.Share.Num) + "/" + written(h.Share.Den)
		}
		return text
	}
	// There are no more accounts than owners, so that each answer that is a number is found.
	for owner := range 1001 {
		if line == "units "+written(owner) {
			return written(givenOf(s, owner))
		}
	}
	return "what"
}

// givenOf tells how many units are in the account of an owner.
func givenOf(s impl.Town, owner int) int {
	sum := 0
	for _, a := range s.Accounts {
		if a.Owner == owner {
			sum += a.Units
		}
	}
	return sum
}

// askedLines returns lines for the desk of a town.
func askedLines(s impl.Town) []string {
	lines := []string{"who", "lost", "came", "held", "ledger", "units 0", "units 1", "units 999", "units 1000"}
	for _, a := range s.Accounts[:min(5, len(s.Accounts))] {
		lines = append(lines, "units "+written(a.Owner), "units "+written(a.Owner+1))
	}
	return append(lines, "what")
}

// checkDesk checks the answers of the desk.
func checkDesk(t *testing.T, s impl.Town, book string, lines []string, want string) {
	t.Helper()
	if got := impl.RunDesk(s, book, lines); got != want {
		t.Errorf("RunDesk(%v, %q, %q) = %q, not %q", s, book, lines, got, want)
	}
}

func TestRunDesk(t *testing.T) {
	for _, c := range someChronicles() {
		book := impl.FormatBook(c.events)
		if len(c.events) > 0 && book == "" {
			t.Errorf("FormatBook(%v) is empty", c.events)
		}
		lines := askedLines(c.end())
		checkDesk(t, c.start(), book, lines, deskAnswers(c.end(), lines))
		checkDesk(t, c.start(), book+"hour 5", lines, deskAnswers(c.end(), lines))
		checkDesk(t, c.start(), book+"hours\nhour 5\n", lines, deskAnswers(c.end(), lines))
	}
	for _, s := range someTowns() {
		lines := askedLines(s)
		checkDesk(t, s, "", lines, deskAnswers(s, lines))
		checkDesk(t, s, "who\n", lines, deskAnswers(s, lines))
	}
}

func TestLinesByHand(t *testing.T) {
	s := market()
	answers := []entry{
		{text: "who"}, {text: "3"}, {text: "lost"}, {text: "21"}, {text: "came"}, {text: "78"}, {text: "held"}, {text: "12"}, {text: "ledger"}, {text: "1 1/2,3 1/3,7 1/6"},
		{text: "units 1"}, {text: "40"}, {text: "units 7"}, {text: "5"}, {text: "units 3"}, {text: "0"}, {text: "units 0"}, {text: "0"}, {text: "units 999"}, {text: "0"}, {text: "units 1000"}, {text: "0"}, {text: "units 99999"}, {text: "0"}, {text: "units 100000"}, {text: "0"}, {text: "units 999999"}, {text: "0"},
	}
	for i := 0; i < len(answers); i += 2 {
		checkDesk(t, s, "", []string{answers[i].text}, answers[i+1].text+"\n")
	}
	for _, line := range []string{
		"", " ", "what", "help", "WHO", "Who", "who ", " who", "who who", "who\n", "\nwho", "lost ", "lost 1", "came 1", "held 1", "ledger 1", "ledgers", "time", "rate", "closed", "hour 5", "swap 0 0",
		"units", "units ", "units  ", "units  1", "units 1 ", " units 1", "units 1 2", "units 01", "units 00", "units 007", "units -1", "units -0", "units +1", "units 1.0", "units a", "units one", "units1", "units,1", "unit 1", "Units 1", "units\t1", "units 1\n", "units\n1", "units 1\x00", "units 1000000", "units 9999999", "units 0000001", "units 000001", "units 10000000", "units 18446744073709551617", "units १", "1 units", "1",
	} {
		checkDesk(t, s, "", []string{line}, "what\n")
		checkDesk(t, s, "swap 0 9\n", []string{line}, "closed\n")
	}
}

func TestLimitsOfTheDesk(t *testing.T) {
	s := market()
	lines := []string{}
	want := ""
	for len(lines) < 20 {
		checkDesk(t, s, "hour 62\n", lines, want)
		lines = append(lines, "held", "units 3")
		want += "30\n15\n"
	}
	checkDesk(t, s, "hour 62\n", lines, want)
	checkDesk(t, s, "hour 62\n", lines[:19], want[:len(want)-3])
	checkDesk(t, s, "hour 62\n", append(lines, "held"), "")
	checkDesk(t, s, "swap 0 9\n", append(lines, "held"), "")
	checkDesk(t, s, "", make([]string, 21), "")
	checkDesk(t, s, "", make([]string, 10000), "")
	for _, bad := range badTowns() {
		checkDesk(t, bad, "", []string{"who", "ledger", "what"}, "")
		checkDesk(t, bad, "swap 0 9\n", []string{"who"}, "")
		checkDesk(t, bad, "", nil, "")
	}
}

func TestBooksOfTheDesk(t *testing.T) {
	s := hamlet(1, 30, 15)
	for _, book := range []string{"swap 0 1\n", "hour 501\n", "inherit 1\n", "sell 1 2 0/1\n", "hour 5\njoin 2 1\n", "turns 0\n", "dig 1 1\n", "gate 1 1\n"} {
		checkDesk(t, s, book, []string{"who", "units 1", "ledger", "what", ""}, "closed\nclosed\nclosed\nclosed\nclosed\n")
		checkDesk(t, s, book, nil, "")
		checkDesk(t, s, book[:len(book)-1], []string{"who"}, "1\n")
		checkDesk(t, s, "hours\n"+book, []string{"who", "came"}, "1\n0\n")
	}
	hours := ""
	for range 59 {
		hours += "hour 20\n"
	}
	checkDesk(t, s, hours+"hour 20\n", []string{"came", "units 1", "held", "lost"}, "1200\n900\n30\n270\n")
	// What is written after as many events as a book may have is not read, whatever it is.
	checkDesk(t, s, hours+"hour 20\nhour 20\nswap 0 9\n", []string{"came", "units 1", "held", "lost"}, "1200\n900\n30\n270\n")
	checkDesk(t, s, hours+"swap 0 9\n", []string{"came"}, "closed\n")
	checkDesk(t, s, "hour 5\njoin 2 1\nhour 5\n", []string{"came"}, "closed\n")
	checkDesk(t, atTime(s, 4941), hours, []string{"came", "who"}, "1180\n1\n")
	checkDesk(t, atTime(s, 4941), hours+"hour 0\n", []string{"came"}, "closed\n")
	checkDesk(t, withAccounts(s, account(4, 1000000)), "", []string{"units 4", "came"}, "1000000\n1000000\n")
}

// spoilTown writes over all lists of a town, and into spare memory behind them.
func spoilTown(s impl.Town, ok bool) {
	spoilLedger(s.Ledger, ok)
	spoilTurns(s.Turns)
	spoilNodes(s.Nodes)
	for i := range s.Accounts {
		s.Accounts[i] = account(-99, -99)
	}
	longer := append(s.Accounts, account(-99, -99), account(-99, -99))
	longer[0] = account(-99, -99)
}

// roomyTown returns a town in whose lists there is spare memory, and all of this memory.
func roomyTown(s impl.Town) (impl.Town, impl.Town) {
	store := copyTown(s)
	store.Ledger = append(store.Ledger, hold(77, 1, 77), hold(78, 1, 78))
	store.Turns = append(store.Turns, run(77, 77), run(78, 78))
	store.Nodes = append(store.Nodes, gate(77, 77), gate(78, 78))
	store.Accounts = append(store.Accounts, account(77, 77), account(78, 78))
	roomy := store
	roomy.Ledger = store.Ledger[:len(s.Ledger)]
	roomy.Turns = store.Turns[:len(s.Turns)]
	roomy.Nodes = store.Nodes[:len(s.Nodes)]
	roomy.Accounts = store.Accounts[:len(s.Accounts)]
	return roomy, store
}

func TestTownsAreNewMemory(t *testing.T) {
	d := &dice{seed: 179}
	for _, s := range fewTowns() {
		roomy, store := roomyTown(s)
		kept := copyTown(store)
		for _, e := range eventsFor(d, s) {
			heirs := append(copyOf(e.Deed.Heirs), 87, 88)
			e.Deed.Heirs = heirs[:len(heirs)-2]
			events := append(timesEvent(e, 1), evHour(7), evGate(0, 1))
			after, ok := impl.ApplyEvent(roomy, e)
			before := copyTown(after)
			spoilTown(impl.ApplyEvent(roomy, e))
			spoilTown(impl.RunBook(roomy, events[:2]))
			spoilTown(impl.RunBook(roomy, nil))
			checkTown(t, "ApplyEvent", after, ok, before, ok)
			spoilTown(after, ok)
			impl.FormatEvent(e)
			impl.FormatBook(events[:2])
			if !sameTown(store, kept) || !isList(heirs[len(heirs)-2:], 87, 88) || !sameEvents(events, []impl.Event{e, evHour(7), evGate(0, 1)}) {
				t.Fatalf("arguments were written to: %v, %v", store, events)
			}
		}
		impl.ValidTown(roomy)
		impl.UnitsTo(roomy, 1)
		impl.RunDesk(roomy, "hour 7\ndig 0 1\nsell 1 2 1/3\nturns 24\n", []string{"who", "ledger"})
		if !sameTown(store, kept) {
			t.Errorf("arguments were written to: %v", store)
		}
	}
	spoilTown(impl.NewTown(5, 30, 15), true)
	checkTown(t, "NewTown", impl.NewTown(5, 30, 15), true, hamlet(5, 30, 15), true)
}

func TestEventsAreNewMemory(t *testing.T) {
	book := "inherit 1 2 3\ninherit 1\ninherit 4 5\nsell 1 2 1/3\nhour 5\n"
	want := []impl.Event{evDeed(inherit(1, 2, 3)), evDeed(inherit(1)), evDeed(inherit(4, 5)), evDeed(sell(1, 2, 1, 3)), evHour(5)}
	for at := range want {
		list := impl.RecoverBook(book)
		spoil(list[at].Deed.Heirs)
		for i, e := range list {
			if i != at && !sameEvent(e, want[i]) {
				t.Errorf("the events of %v share memory", list)
			}
		}
		list[at] = impl.Event{}
		checkRecovered(t, book, want)
	}
	first, _ := impl.ParseEvent("inherit 1 2 3")
	second, _ := impl.ParseEvent("inherit 1 2 3")
	spoil(second.Deed.Heirs)
	if !sameEvent(first, want[0]) {
		t.Errorf("ParseEvent = %v", first)
	}
}
