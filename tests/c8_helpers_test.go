package tests

import (
	"testing"

	"loop.example/watershares/impl"
)

// account returns an account.
func account(owner int, units int) impl.Account {
	return impl.Account{Owner: owner, Units: units}
}

// evDeed returns the event of a deed.
func evDeed(d impl.Deed) impl.Event {
	return impl.Event{Kind: impl.EvDeed, Deed: d}
}

// evTurns returns the event that turns are made anew.
func evTurns(hours int) impl.Event {
	return impl.Event{Kind: impl.EvTurns, Number: hours}
}

// evSwap returns the event that two turns are exchanged.
func evSwap(i int, k int) impl.Event {
	return impl.Event{Kind: impl.EvSwap, At: i, Number: k}
}

// evGate returns the event that a gate is set.
func evGate(at int, weight int) impl.Event {
	return impl.Event{Kind: impl.EvGate, At: at, Number: weight}
}

// evDig returns the event that a new channel is dug.
func evDig(at int, weight int) impl.Event {
	return impl.Event{Kind: impl.EvDig, At: at, Number: weight}
}

// evHour returns the event that an hour passes.
func evHour(units int) impl.Event {
	return impl.Event{Kind: impl.EvHour, Number: units}
}

// sameAccounts reports whether two lists have the same accounts.
func sameAccounts(a []impl.Account, b []impl.Account) bool {
	if len(a) != len(b) {
		return false
	}
	for i := range a {
		if a[i] != b[i] {
			return false
		}
	}
	return true
}

// copyAccounts returns a copy of accounts.
func copyAccounts(list []impl.Account) []impl.Account {
	return append([]impl.Account{}, list...)
}

// sameTown reports whether two towns are the same.
func sameTown(a impl.Town, b impl.Town) bool {
	if !sameLedger(a.Ledger, b.Ledger) || !sameTurns(a.Turns, b.Turns) || !sameNodes(a.Nodes, b.Nodes) || !sameAccounts(a.Accounts, b.Accounts) {
		return false
	}
	return a.Basin == b.Basin && a.Rate == b.Rate && a.Time == b.Time && a.Lost == b.Lost && a.Came == b.Came
}

// copyTown returns a copy of a town.
func copyTown(s impl.Town) impl.Town {
	s.Ledger = copyLedger(s.Ledger)
	s.Turns = copyTurns(s.Turns)
	s.Nodes = copyNodes(s.Nodes)
	s.Accounts = copyAccounts(s.Accounts)
	return s
}

// sameEvent reports whether two events are the same.
func sameEvent(a impl.Event, b impl.Event) bool {
	if a.Kind != b.Kind || a.At != b.At || a.Number != b.Number || !sameList(a.Deed.Heirs, b.Deed.Heirs) {
		return false
	}
	return a.Deed.Kind == b.Deed.Kind && a.Deed.Owner == b.Deed.Owner && a.Deed.Other == b.Deed.Other && a.Deed.Part == b.Deed.Part
}

// sameEvents reports whether two lists have the same events.
func sameEvents(a []impl.Event, b []impl.Event) bool {
	if len(a) != len(b) {
		return false
	}
	for i := range a {
		if !sameEvent(a[i], b[i]) {
			return false
		}
	}
	return true
}

// timesEvent returns an event so many times.
func timesEvent(e impl.Event, times int) []impl.Event {
	list := []impl.Event{}
	for range times {
		list = append(list, e)
	}
	return list
}

// checkTown checks a town, or that there is none, against the one that is expected.
func checkTown(t *testing.T, name string, got impl.Town, ok bool, want impl.Town, fine bool) {
	t.Helper()
	if !fine {
		want = impl.Town{}
	}
	if ok != fine || !sameTown(got, want) {
		t.Errorf("%s = %v, %v, not %v, %v", name, got, ok, want, fine)
	}
}

// checkNoTown checks that there is no town.
func checkNoTown(t *testing.T, name string, got impl.Town, ok bool) {
	t.Helper()
	checkTown(t, name, got, ok, impl.Town{}, false)
}

// accounted returns the units that are in the accounts of a town, held or lost.
func accounted(s impl.Town) int {
	sum := s.Basin.Held + s.Lost
	for _, a := range s.Accounts {
		sum += a.Units
	}
	return sum
}

// balanced returns a town to which as many units came as are accounted for.
func balanced(s impl.Town) impl.Town {
	s.Came = accounted(s)
	return s
}

// hamlet returns the town in which nothing has happened yet.
func hamlet(owner int, room int, rate int) impl.Town {
	return impl.Town{Ledger: []impl.Holding{hold(owner, 1, 1)}, Turns: []impl.Turn{run(owner, 24)}, Nodes: []impl.Node{spring(0, 500)}, Basin: basin(room, 0), Rate: rate}
}

// market returns a town of three owners at a time at which it is the turn of the owner 3, who has no account; 19 units are lost on the way of 92.
func market() impl.Town {
	return balanced(impl.Town{
		Ledger: []impl.Holding{hold(1, 1, 2), hold(3, 1, 3), hold(7, 1, 6)}, Turns: []impl.Turn{run(7, 2), run(1, 3), run(3, 1), run(1, 6)},
		Nodes: []impl.Node{spring(2, 500), place(0, 2, 1, 40), gate(0, 1)}, Basin: basin(30, 12),
		Accounts: []impl.Account{account(1, 40), account(7, 5)}, Rate: 15, Time: 17, Lost: 21,
	})
}

// atTime returns a town at another time.
func atTime(s impl.Town, time int) impl.Town {
	s.Time = time
	return s
}

// withRate returns a town in which another number of units is wanted in each hour.
func withRate(s impl.Town, rate int) impl.Town {
	s.Rate = rate
	return s
}

// withLost returns a town in which another number of units was lost.
func withLost(s impl.Town, lost int) impl.Town {
	s.Lost = lost
	return balanced(s)
}

// withBasin returns a town with another basin.
func withBasin(s impl.Town, b impl.Basin) impl.Town {
	s.Basin = b
	return balanced(s)
}

// withAccounts returns a town with other accounts.
func withAccounts(s impl.Town, list ...impl.Account) impl.Town {
	s.Accounts = list
	return balanced(s)
}

// withLedger returns a town with another ledger.
func withLedger(s impl.Town, list []impl.Holding) impl.Town {
	s.Ledger = list
	return s
}

// withTurns returns a town with other turns.
func withTurns(s impl.Town, list []impl.Turn) impl.Town {
	s.Turns = list
	return s
}

// withNodes returns a town with another channel.
func withNodes(s impl.Town, list []impl.Node) impl.Town {
	s.Nodes = list
	return s
}

// allAccounts returns an account of each number of an owner.
func allAccounts(units int) []impl.Account {
	list := []impl.Account{}
	for _, owner := range upTo(999) {
		list = append(list, account(owner, units))
	}
	return list
}

// fewTowns returns valid towns made by hand, those at the limits among them.
func fewTowns() []impl.Town {
	return []impl.Town{
		hamlet(1, 0, 0), hamlet(999, 20000, 500), hamlet(1, 30, 15), hamlet(500, 0, 500), hamlet(2, 20000, 0), market(), atTime(hamlet(1, 0, 0), 5000), atTime(market(), 4999), atTime(market(), 0),
		withRate(market(), 0), withRate(market(), 500), withLost(market(), 0), withLost(hamlet(1, 5, 5), 1000000), withLost(hamlet(1, 5, 5), 999999), withBasin(market(), basin(0, 0)), withBasin(market(), basin(20000, 20000)), withBasin(market(), basin(12, 12)),
		withAccounts(market()), withAccounts(market(), account(1, 1)), withAccounts(market(), account(999, 1)), withAccounts(market(), account(500, 999967)), withAccounts(hamlet(1, 0, 0), account(4, 1000000)), withAccounts(hamlet(1, 0, 0), account(4, 500000), account(5, 500000)),
		withAccounts(market(), allAccounts(1)...), withAccounts(hamlet(7, 5, 5), allAccounts(1001)...), withLost(withAccounts(hamlet(7, 5, 5), account(7, 999999)), 1), withAccounts(withBasin(hamlet(3, 5, 5), basin(5, 5)), account(9, 999995)),
		withLedger(market(), evenLedger(12, 988)), withLedger(market(), greatDen()), withLedger(market(), hugeDen()), withLedger(market(), []impl.Holding{hold(1, 1, 10000), hold(2, 9999, 10000)}), withTurns(market(), equalTurns(24, 14)), withTurns(market(), []impl.Turn{run(999, 336)}), withTurns(market(), []impl.Turn{run(8, 1)}),
		withNodes(market(), valley()), withNodes(market(), lineOf(12, 1, 500)), withNodes(market(), lineOf(11, 1, 500)), withNodes(market(), starOf(0, 0)), withNodes(market(), []impl.Node{spring(500, 0)}), withNodes(market(), forkOf(12, 5, 0)),
	}
}

// stock is what towns are made of.
type stock struct {
	ledgers   [][]impl.Holding
	rotations [][]impl.Turn
	channels  [][]impl.Node
}

// fullStock returns ledgers, turns and channels of many kinds.
func fullStock() stock {
	return stock{ledgers: turnLedgers(), rotations: someTurns(), channels: someChannels()}
}

// madeAccounts returns accounts without a pattern, those of some owners of turns among them.
func madeAccounts(d *dice, turns []impl.Turn) []impl.Account {
	list := []impl.Account{}
	owners := ownersOf(turns)
	few := 1 + d.roll(300)
	for _, owner := range upTo(999) {
		if isOneOf(owner, owners) && d.roll(2) == 0 || d.roll(few) == 7 {
			list = append(list, account(owner, 1+d.roll(200)))
		}
	}
	return list
}

// madeTown returns a town without a pattern.
func madeTown(d *dice, of stock) impl.Town {
	s := impl.Town{Ledger: of.ledgers[d.roll(len(of.ledgers))], Turns: of.rotations[d.roll(len(of.rotations))], Nodes: of.channels[d.roll(len(of.channels))]}
	s.Basin.Room = []int{0, d.roll(30), d.roll(400), d.roll(20001)}[d.roll(4)]
	s.Basin.Held = []int{0, s.Basin.Room, d.roll(s.Basin.Room + 1)}[d.roll(3)]
	s.Accounts = madeAccounts(d, s.Turns)
	s.Rate = madeUnits(d, d.roll(4))
	s.Time = []int{0, d.roll(48), d.roll(5001), d.roll(5001), 4990 + d.roll(11)}[d.roll(5)]
	s.Lost = []int{0, d.roll(1000), d.roll(30000)}[d.roll(3)]
	return balanced(s)
}

// someTowns returns valid towns of many kinds.
func someTowns() []impl.Town {
	list := fewTowns()
	d := &dice{seed: 151}
	of := fullStock()
	for range 80 {
		list = append(list, madeTown(d, of))
	}
	return list
}

// badAccounts returns accounts that are not those of a town.
func badAccounts() [][]impl.Account {
	lists := [][]impl.Account{
		{account(0, 5)}, {account(1000, 5)}, {account(-1, 5)}, {account(greatestInt, 5)}, {account(leastInt, 5)}, {account(0, 5), account(1, 5)}, {account(-3, 5), account(3, 5)}, {account(5, 5), account(1000, 5)},
		{account(3, 5), account(3, 5)}, {account(5, 5), account(3, 5)}, {account(1, 5), account(3, 5), account(2, 5)}, {account(1, 5), account(2, 5), account(2, 5)}, {account(1, 5), account(999, 5), account(998, 5)},
		{account(1, 0)}, {account(1, -1)}, {account(1, 5), account(2, 0)}, {account(1, 0), account(2, 5)}, {account(1, 5), account(2, -5)}, {account(1, 5), account(2, -3), account(3, 5)},
		{account(1, 1000001)}, {account(1, 1000000), account(2, 1)}, {account(1, greatestInt)}, {account(1, leastInt)}, {account(1, 500001), account(2, 500000)},
		// The sums of these overflow, to numbers that are not too great.
		{account(1, greatestInt), account(2, greatestInt), account(3, 2)}, {account(1, greatestInt), account(2, greatestInt), account(3, 1000)}, {account(1, leastInt), account(2, leastInt)}, {account(1, greatestInt), account(2, leastInt), account(3, 1)},
		append(allAccounts(1), account(1000, 1)), append(allAccounts(1), account(999, 1)), append(allAccounts(1), account(1, 1)), append(allAccounts(1001), account(5, 1)),
	}
	return lists
}

// badTowns returns towns that are not valid: of all of them but a few, only one thing is not.
func badTowns() []impl.Town {
	list := []impl.Town{{}, {Ledger: evenLedger(1, 1)}, {Turns: []impl.Turn{run(1, 24)}}, {Nodes: []impl.Node{spring(0, 500)}}}
	s := market()
	for _, bad := range badLedgers() {
		list = append(list, withLedger(s, bad), withLedger(hamlet(1, 30, 15), bad))
	}
	for _, bad := range badTurns() {
		list = append(list, withTurns(s, bad))
	}
	for _, bad := range badChannels() {
		list = append(list, withNodes(s, bad))
	}
	for _, bad := range badBasins() {
		list = append(list, withBasin(s, bad))
	}
	for _, bad := range badAccounts() {
		list = append(list, withAccounts(s, bad...), withAccounts(hamlet(1, 0, 0), bad...))
	}
	for _, bad := range badCounts() {
		list = append(list, withRate(s, bad))
	}
	for _, bad := range badTimes() {
		list = append(list, atTime(s, bad))
	}
	for _, bad := range []int{-1, -12, -57, -58, 1000001, 1000000, 999944, greatestInt, leastInt} {
		list = append(list, withLost(s, bad))
	}
	for _, bad := range []int{0, 77, 79, -78, -1, 1000000, 1000001, greatestInt, leastInt} {
		s.Came = bad
		list = append(list, s)
	}
	return list
}

// isTown reports whether a town is valid, told by its parts and by its balance.
func isTown(s impl.Town) bool {
	last := 0
	for _, a := range s.Accounts {
		if a.Owner <= last || !isGoodOwner(a.Owner) || a.Units <= 0 || a.Units >= 1000001 {
			return false
		}
		last = a.Owner
	}
	if !isWhole(s.Ledger) || !impl.ValidTurns(s.Turns) || !impl.ValidNodes(s.Nodes) || s.Basin.Held < 0 || s.Basin.Held > s.Basin.Room || s.Basin.Room > 20000 {
		return false
	}
	if min(s.Rate, s.Time, s.Lost, s.Came) < 0 || s.Rate > 500 || s.Time > 5000 || max(s.Lost, s.Came) > 1000000 {
		return false
	}
	return s.Came == accounted(s)
}

// deedAfter tells what a ledger is after a deed, by a pool.
func deedAfter(list []impl.Holding, deed impl.Deed) ([]impl.Holding, bool) {
	switch deed.Kind {
	case 0:
		return poolSale(list, deed.Owner, deed.Other, deed.Part)
	case 1:
		return poolHeirs(list, deed.Owner, deed.Heirs)
	case 2:
		for _, h := range list {
			if h.Owner == deed.Owner {
				return poolSale(list, deed.Owner, deed.Other, h.Share)
			}
		}
	}
	return nil, false
}

// townAfter tells what a valid town is after an event, without the program.
func townAfter(s impl.Town, e impl.Event) (impl.Town, bool) {
	after := copyTown(s)
	isGate := isOneOf(e.At, indices(len(s.Nodes))) && e.Number >= 0 && e.Number <= 1000
	switch e.Kind {
	case 0:
		ledger, ok := deedAfter(s.Ledger, e.Deed)
		after.Ledger = ledger
		return after, ok
	case 1:
		turns, ok := sharedTurns(s.Ledger, e.Number)
		after.Turns = turns
		return after, ok
	case 2:
		if !isOneOf(e.At, indices(len(s.Turns))) || !isOneOf(e.Number, indices(len(s.Turns))) {
			return s, false
		}
		for i, from := range exchanged(indices(len(s.Turns)), e.At, e.Number) {
			after.Turns[i] = s.Turns[from]
		}
		return after, true
	case 3:
		if isGate {
			after.Nodes = withWeightAt(s.Nodes, e.At, e.Number)
		}
		return after, isGate
	case 4:
		after.Nodes = append(after.Nodes, gate(e.At, e.Number))
		return after, isGate && len(s.Nodes) < 12
	case 5:
		return hourAfter(s, e.Number)
	}
	return s, false
}

// hourAfter tells what a valid town is after an hour, by letting one unit after the other run down from the spring.
func hourAfter(s impl.Town, units int) (impl.Town, bool) {
	if units < 0 || units > 500 || s.Time == 5000 {
		return s, false
	}
	ran := tally{come: steady(0, len(s.Nodes)), pass: steady(0, len(s.Nodes))}
	for range units {
		ran = ran.afterUnit(s.Nodes)
	}
	delivered := 0
	for _, leaf := range leavesIn(s.Nodes) {
		delivered += ran.pass[leaf]
	}
	after := copyTown(s)
	kept, give, spill := hourOf(s.Basin, delivered, s.Rate)
	after.Basin = kept
	after.Accounts = givenTo(s.Accounts, hoursFrom(s.Turns)[s.Time], give)
	after.Lost += ran.lost + spill
	after.Came += units
	after.Time++
	return after, after.Came <= 1000000
}

// givenTo tells accounts in which an owner has more units, by a table of all owners.
func givenTo(list []impl.Account, owner int, units int) []impl.Account {
	table := steady(0, 1000)
	for _, a := range list {
		table[a.Owner] = a.Units
	}
	table[owner] += units
	after := []impl.Account{}
	for other, sum := range table {
		if sum > 0 {
			after = append(after, account(other, sum))
		}
	}
	return after
}

// madeDeed returns a deed for a ledger without a pattern, which may not be possible.
func madeDeed(d *dice, list []impl.Holding) impl.Deed {
	owners := someOwners(list)
	owner := owners[d.roll(len(owners))]
	other := owners[d.roll(len(owners))]
	switch d.roll(3) {
	case 0:
		return join(owner, other)
	case 1:
		heirs := someHeirs(list)
		return inherit(owner, heirs[d.roll(len(heirs))]...)
	}
	parts := someParts(list)
	part := parts[d.roll(len(parts))]
	return sell(owner, other, part.Num, part.Den)
}

// eventsFor returns events for a town without a pattern, many of which are possible.
func eventsFor(d *dice, s impl.Town) []impl.Event {
	list := []impl.Event{
		evTurns(1 + d.roll(336)), evTurns(1 + d.roll(30)), evTurns(336 + d.roll(3)), evTurns(d.roll(2)),
		evSwap(d.roll(len(s.Turns)), d.roll(len(s.Turns))), evSwap(d.roll(len(s.Turns)), d.roll(len(s.Turns)+1)), evSwap(d.roll(27)-1, d.roll(27)-1),
		evGate(d.roll(len(s.Nodes)), d.roll(4)), evGate(d.roll(len(s.Nodes)+1), 0), evGate(d.roll(15)-1, 998+d.roll(5)),
		evDig(d.roll(len(s.Nodes)), d.roll(4)), evDig(d.roll(len(s.Nodes)+1), 0), evDig(d.roll(15)-1, 998+d.roll(5)),
		evHour(0), evHour(d.roll(10)), evHour(d.roll(40)), evHour(d.roll(40)), evHour(60 + d.roll(60)), evHour(495 + d.roll(7)),
	}
	for range 6 {
		list = append(list, evDeed(madeDeed(d, s.Ledger)))
	}
	return list
}

// badEvents returns events that are possible in no town.
func badEvents() []impl.Event {
	list := []impl.Event{
		evTurns(0), evTurns(-1), evTurns(337), evTurns(greatestInt), evTurns(leastInt),
		evDeed(impl.Deed{}), evDeed(sell(1, 1, 1, 2)), evDeed(sell(1, 0, 1, 2)), evDeed(sell(0, 1, 1, 2)), evDeed(sell(1, 1000, 1, 2)), evDeed(sell(1, 2, 0, 1)), evDeed(sell(1, 2, 2, 4)), evDeed(sell(1, 2, 0, 0)), evDeed(sell(1, 2, 3, 2)),
		evDeed(join(1, 1)), evDeed(join(1, 0)), evDeed(join(0, 1)), evDeed(join(1, 1000)), evDeed(join(1000, 1)), evDeed(inherit(1)), evDeed(inherit(1, 1)), evDeed(inherit(1, 0)), evDeed(inherit(1, 1000)), evDeed(inherit(1, 2, 2)), evDeed(inherit(0, 1)), evDeed(inherit(1, upTo(14)[1:]...)),
	}
	for _, kind := range []int{-1, 3, greatestInt, leastInt} {
		list = append(list, evDeed(impl.Deed{Kind: kind, Owner: 1, Other: 2, Part: frac(1, 2), Heirs: []int{2}}))
	}
	for _, bad := range []int{-1, 24, 25, greatestInt, leastInt} {
		list = append(list, evSwap(bad, 0), evSwap(0, bad), evSwap(bad, bad))
	}
	for _, bad := range []int{-1, 12, 13, greatestInt, leastInt} {
		list = append(list, evGate(bad, 1), evDig(bad, 1))
	}
	for _, bad := range []int{-1, 1001, greatestInt, leastInt} {
		list = append(list, evGate(0, bad), evDig(0, bad))
	}
	for _, bad := range badCounts() {
		list = append(list, evHour(bad))
	}
	for _, kind := range []int{-1, 6, 7, greatestInt, leastInt} {
		list = append(list, impl.Event{Kind: kind, Deed: sell(1, 2, 1, 2)}, impl.Event{Kind: kind, Number: 24})
	}
	return list
}

// undressed returns an event in which only what it names is left.
func undressed(e impl.Event) impl.Event {
	switch e.Kind {
	case 0:
		return impl.Event{Deed: undressedDeed(e.Deed)}
	case 1, 5:
		return impl.Event{Kind: e.Kind, Number: e.Number}
	}
	return impl.Event{Kind: e.Kind, At: e.At, Number: e.Number}
}

// undressedDeed returns a deed in which only what it names is left.
func undressedDeed(deed impl.Deed) impl.Deed {
	switch deed.Kind {
	case 0:
		return sell(deed.Owner, deed.Other, deed.Part.Num, deed.Part.Den)
	case 1:
		return inherit(deed.Owner, deed.Heirs...)
	}
	return join(deed.Owner, deed.Other)
}

// dressed returns an event with some number, owner, fraction and heirs in all that it does not name.
func dressed(e impl.Event, n int, owner int, part impl.Frac, heirs []int) impl.Event {
	after := impl.Event{Kind: e.Kind, Deed: impl.Deed{Kind: n, Owner: owner, Other: owner, Part: part, Heirs: heirs}, At: n, Number: n}
	switch e.Kind {
	case 0:
		after.Deed = dressedDeed(e.Deed, owner, part, heirs)
	case 1, 5:
		after.Number = e.Number
	default:
		after.At = e.At
		after.Number = e.Number
	}
	return after
}

// dressedDeed returns a deed with an owner, a fraction and heirs in all that it does not name.
func dressedDeed(deed impl.Deed, owner int, part impl.Frac, heirs []int) impl.Deed {
	after := impl.Deed{Kind: deed.Kind, Owner: deed.Owner, Other: owner, Part: part, Heirs: heirs}
	switch deed.Kind {
	case 0:
		after.Other = deed.Other
		after.Part = deed.Part
	case 1:
		after.Heirs = deed.Heirs
	default:
		after.Other = deed.Other
	}
	return after
}

// chronicle is a town, events that are possible one after the other, and the towns before and after them, told without the program.
type chronicle struct {
	events []impl.Event
	towns  []impl.Town
}

// start returns the town before all events.
func (c chronicle) start() impl.Town {
	return c.towns[0]
}

// end returns the town after all events.
func (c chronicle) end() impl.Town {
	return c.towns[len(c.towns)-1]
}

// then returns the chronicle with one event more, or as it is if this is not possible.
func (c chronicle) then(e impl.Event) chronicle {
	after, ok := townAfter(c.end(), e)
	if !ok {
		return c
	}
	return chronicle{append(append([]impl.Event{}, c.events...), e), append(append([]impl.Town{}, c.towns...), after)}
}

// chronicleOf returns the chronicle of the events that are possible one after the other.
func chronicleOf(s impl.Town, events ...impl.Event) chronicle {
	c := chronicle{towns: []impl.Town{s}}
	for _, e := range events {
		c = c.then(e)
	}
	return c
}

// madeChronicle returns a chronicle of at most so many events, without a pattern.
func madeChronicle(d *dice, s impl.Town, count int) chronicle {
	c := chronicleOf(s)
	for range 2 * count {
		events := eventsFor(d, c.end())
		if len(c.events) < count {
			c = c.then(events[d.roll(len(events))])
		}
	}
	return c
}

// longAgo returns the events of a town of the owner 1, with deeds with heirs, and hours in which water spills, or nothing comes.
func longAgo() []impl.Event {
	return []impl.Event{
		evDeed(sell(1, 2, 1, 3)), evTurns(24), evHour(20), evHour(10), evSwap(0, 1), evHour(60), evDig(0, 1), evGate(1, 0), evHour(10), evHour(0),
		evGate(1, 3), evHour(500), evDig(0, 2), evDeed(inherit(1, 5, 2)), evDeed(join(5, 7)), evTurns(9), evHour(400), evHour(0), evHour(0), evHour(0), evHour(7),
	}
}

// someChronicles returns chronicles of many kinds.
func someChronicles() []chronicle {
	list := []chronicle{
		chronicleOf(hamlet(1, 30, 15)), chronicleOf(market()), chronicleOf(hamlet(1, 30, 15), longAgo()...), chronicleOf(hamlet(1, 0, 100), longAgo()...), chronicleOf(market(), longAgo()...),
		chronicleOf(market(), timesEvent(evHour(62), 60)...), chronicleOf(hamlet(999, 300, 0), timesEvent(evHour(9), 60)...), chronicleOf(atTime(market(), 4990), timesEvent(evHour(1), 60)...),
	}
	d := &dice{seed: 157}
	of := fullStock()
	for count := 1; count <= 25; count++ {
		list = append(list, madeChronicle(d, hamlet(1+d.roll(999), d.roll(200), d.roll(80)), count), madeChronicle(d, madeTown(d, of), count))
	}
	for range 6 {
		list = append(list, madeChronicle(d, hamlet(1+d.roll(999), d.roll(200), d.roll(80)), 60), madeChronicle(d, market(), 59), madeChronicle(d, madeTown(d, of), 60))
	}
	return list
}

// written returns the decimal text of a number of at least 0.
func written(n int) string {
	digit := string(rune('0' + n%10))
	if n < 10 {
		return digit
	}
	return written(n/10) + digit
}

// listed returns numbers of at least 0 as texts, with a space before each.
func listed(list ...int) string {
	text := ""
	for _, n := range list {
		text += " " + written(n)
	}
	return text
}

// entry is an event, and its text.
type entry struct {
	event impl.Event
	text  string
}

// fewEntries returns events and their texts made by hand, those at the limits among them.
func fewEntries() []entry {
	return []entry{
		{evDeed(sell(1, 2, 1, 3)), "sell 1 2 1/3"}, {evDeed(sell(999, 998, 9999, 10000)), "sell 999 998 9999/10000"}, {evDeed(sell(10, 100, 1, 1)), "sell 10 100 1/1"}, {evDeed(sell(7, 7, 0, 1)), "sell 7 7 0/1"},
		{evDeed(inherit(1, 2, 3)), "inherit 1 2 3"}, {evDeed(inherit(1)), "inherit 1"}, {evDeed(inherit(999, 999)), "inherit 999 999"}, {evDeed(inherit(5, 6, 6, 5, 6)), "inherit 5 6 6 5 6"},
		{evDeed(inherit(13, upTo(12)...)), "inherit 13 1 2 3 4 5 6 7 8 9 10 11 12"}, {evDeed(inherit(999, twelve(999)...)), "inherit 999 999 999 999 999 999 999 999 999 999 999 999 999"},
		{evDeed(join(2, 1)), "join 2 1"}, {evDeed(join(999, 999)), "join 999 999"}, {evDeed(join(1, 10)), "join 1 10"},
		{evTurns(24), "turns 24"}, {evTurns(0), "turns 0"}, {evTurns(9999), "turns 9999"}, {evTurns(336), "turns 336"},
		{evSwap(0, 1), "swap 0 1"}, {evSwap(9999, 9999), "swap 9999 9999"}, {evSwap(0, 0), "swap 0 0"}, {evSwap(12, 3), "swap 12 3"},
		{evGate(1, 0), "gate 1 0"}, {evGate(9999, 9999), "gate 9999 9999"}, {evGate(0, 1000), "gate 0 1000"},
		{evDig(0, 1), "dig 0 1"}, {evDig(9999, 9999), "dig 9999 9999"}, {evDig(11, 0), "dig 11 0"},
		{evHour(20), "hour 20"}, {evHour(0), "hour 0"}, {evHour(9999), "hour 9999"}, {evHour(501), "hour 501"},
	}
}

// madeOwner returns a number of an owner without a pattern, often one with few digits.
func madeOwner(d *dice) int {
	return 1 + d.roll([]int{9, 99, 999}[d.roll(3)])
}

// madeNumber returns a number without a pattern that the text of an event can have.
func madeNumber(d *dice) int {
	return d.roll([]int{2, 10, 100, 1000, 10000}[d.roll(5)])
}

// madeEntry returns an event without a pattern, and its text.
func madeEntry(d *dice) entry {
	owner := madeOwner(d)
	other := madeOwner(d)
	at := madeNumber(d)
	n := madeNumber(d)
	switch d.roll(8) {
	case 0:
		list := someFracs()
		f := list[d.roll(len(list))]
		return entry{evDeed(sell(owner, other, f.Num, f.Den)), "sell" + listed(owner, other) + " " + written(f.Num) + "/" + written(f.Den)}
	case 1:
		heirs := []int{}
		for range d.roll(13) {
			heirs = append(heirs, madeOwner(d))
		}
		return entry{evDeed(inherit(owner, heirs...)), "inherit" + listed(owner) + listed(heirs...)}
	case 2:
		return entry{evDeed(join(owner, other)), "join" + listed(owner, other)}
	case 3:
		return entry{evTurns(n), "turns" + listed(n)}
	case 4:
		return entry{evSwap(at, n), "swap" + listed(at, n)}
	case 5:
		return entry{evGate(at, n), "gate" + listed(at, n)}
	case 6:
		return entry{evDig(at, n), "dig" + listed(at, n)}
	}
	return entry{evHour(n), "hour" + listed(n)}
}

// someEntries returns events of all kinds, and their texts.
func someEntries() []entry {
	list := fewEntries()
	d := &dice{seed: 163}
	for range 300 {
		list = append(list, madeEntry(d))
	}
	return list
}

// piecesOf returns the pieces of a text between the bytes c.
func piecesOf(s string, c byte) []string {
	pieces := []string{""}
	for i := range len(s) {
		if s[i] == c {
			pieces = append(pieces, "")
		} else {
			pieces[len(pieces)-1] += s[i : i+1]
		}
	}
	return pieces
}

// valueOf returns the number whose decimal text a text is, -1 if there is none of at most five digits.
func valueOf(s string) int {
	n := 0
	for i := range len(s) {
		if s[i] < '0' || s[i] > '9' || i > 4 {
			return -1
		}
		n = 10*n + int(s[i]) - '0'
	}
	if s != written(n) {
		return -1
	}
	return n
}

// isNumberIn reports whether a text is that of a number in least..most, which is at most 99999.
func isNumberIn(s string, least int, most int) bool {
	n := valueOf(s)
	return n >= least && n <= most
}

// areOwners reports whether texts are those of numbers of owners.
func areOwners(words []string) bool {
	for _, word := range words {
		if !isNumberIn(word, 1, 999) {
			return false
		}
	}
	return true
}

// isPartText reports whether a text is that of a valid fraction.
func isPartText(s string) bool {
	numbers := piecesOf(s, '/')
	if len(numbers) != 2 {
		return false
	}
	n := valueOf(numbers[0])
	d := valueOf(numbers[1])
	return d >= 1 && d <= 10000 && n >= 0 && n <= d && euclid(n, d) == 1
}

// isEventText reports whether a text is that of an event, told word by word.
func isEventText(s string) bool {
	words := piecesOf(s, ' ')
	rest := words[1:]
	switch words[0] {
	case "sell":
		return len(rest) == 3 && areOwners(rest[:2]) && isPartText(rest[2])
	case "inherit":
		return len(rest) >= 1 && len(rest) <= 13 && areOwners(rest)
	case "join":
		return len(rest) == 2 && areOwners(rest)
	case "turns", "hour":
		return len(rest) == 1 && isNumberIn(rest[0], 0, 9999)
	case "swap", "gate", "dig":
		return len(rest) == 2 && isNumberIn(rest[0], 0, 9999) && isNumberIn(rest[1], 0, 9999)
	}
	return false
}

// spoiledTexts returns a text with one byte more, less, or in the place of another one, in many ways.
func spoiledTexts(s string) []string {
	list := []string{}
	for i := range len(s) + 1 {
		for _, c := range []string{" ", "0", "1", "9", "/", "-", "+", "s", "\n", "\x00", "\t", "é"} {
			list = append(list, s[:i]+c+s[i:])
			if i < len(s) {
				list = append(list, s[:i]+c+s[i+1:])
			}
		}
		if i < len(s) {
			list = append(list, s[:i]+s[i+1:], s[:i])
		}
	}
	return list
}

// otherTexts returns texts that are those of no event.
func otherTexts() []string {
	long := "1"
	for range 2000 {
		long = long + "0000000000"
	}
	return []string{
		"", " ", "  ", "\n", "5", "1 2", "what", "hours", "hours 5", "Hour 5", "HOUR 5", "hou 5", "hour5", "hour,5", "hour\t5", "hour", "hour ", "hour  5", " hour 5", "hour 5 ", "hour 5 5", "hour 05", "hour 00", "hour -0", "hour -1", "hour +5", "hour 5.0", "hour 10000", "hour 99999", "hour 1000000", "hour 9999999", "hour five", "hour 18446744073709551617", "hour 5\n", "hour 5\r", "hour\n5", "hour ५",
		"turns", "turns ", "turns 10000", "turns 01", "turns 24 24", "turns -1", "turn 24", "swap", "swap 1", "swap 1 ", "swap  1", "swap 1 2 3", "swap 1 10000", "swap 10000 1", "swap 01 2", "swap 1 02", "swap 1  2", "swap 1,2", "swap a b", "gate", "gate 1", "gate 1 2 3", "gate 1 10000", "gate 10000 1", "gate 1 -1", "gate -1 1", "dig", "dig 0", "dig 0 1 2", "dig 10000 1", "dig 0 10000", "dig 0 1 ",
		"sell", "sell 1", "sell 1 2", "sell 1 2 ", "sell 1 2 2/4", "sell 1 0 1/2", "sell 0 1 1/2", "sell 1000 1 1/2", "sell 1 1000 1/2", "sell 1 2 1/2 3", "sell 1 2 1", "sell 1 2 1/0", "sell 1 2 0/0", "sell 1 2 3/2", "sell 1 2 01/2", "sell 1 2 1/20000", "sell 1 2 -1/2", "sell 1/2 1 2", "sell 1 2 /", "sell 1 2 1/2/3", "sell  1 2 1/2", "sell 1 2  1/2", "sell -1 2 1/2", "sell 1 2 0/2",
		"inherit", "inherit ", "inherit 0", "inherit 1 0", "inherit 1000", "inherit 1 1000", "inherit 1 ", "inherit  1", "inherit 1  2", "inherit 1 2 ", "inherit 01", "inherit 1 02", "inherit 1 -2", "inherit 1 2,3", "inherit 1 1/2", "inherit 14 1 2 3 4 5 6 7 8 9 10 11 12 13", "inherit 1 1 1 1 1 1 1 1 1 1 1 1 1 1", "inherit 1 1 1 1 1 1 1 1 1 1 1 1 1 ", "inherit 1 1 1 1 1 1 1 1 1 1 1 1 1 1 1 1 1 1 1 1",
		"join", "join 1", "join 1 ", "join 1 2 3", "join 1 1/2", "join 0 1", "join 1 0", "join 1000 1", "join 1 1000", "join 01 2", "deed 1 2", "0 1", "hour 5\x00", "\x00", long, "hour " + long, "inherit 1 " + long, "sell 1 2 1/" + long,
	}
}

// texted returns the text of a book: the texts of events, each with a newline after it.
func texted(list []entry) string {
	text := ""
	for _, en := range list {
		text += en.text + "\n"
	}
	return text
}

// eventsIn returns the events of entries.
func eventsIn(list []entry) []impl.Event {
	events := []impl.Event{}
	for _, en := range list {
		events = append(events, en.event)
	}
	return events
}

// countOf returns how many bytes c a text has.
func countOf(s string, c byte) int {
	count := 0
	for i := range len(s) {
		if s[i] == c {
			count++
		}
	}
	return count
}
