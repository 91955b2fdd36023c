package tests

import (
	"testing"

	"loop.example/watershares/impl"
)

// allTowns returns towns of many kinds, and those of chronicles.
func allTowns() []impl.Town {
	list := someTowns()
	for _, c := range someChronicles() {
		list = append(list, c.towns...)
	}
	return list
}

// cameIn returns the units of all hours of a book.
func cameIn(list []impl.Event) int {
	sum := 0
	for _, e := range list {
		if e.Kind == impl.EvHour {
			sum += e.Number
		}
	}
	return sum
}

// hoursIn returns the number of hours of a book.
func hoursIn(list []impl.Event) int {
	count := 0
	for _, e := range list {
		if e.Kind == impl.EvHour {
			count++
		}
	}
	return count
}

// stepped is a town, an event that is possible in it, and the town after it by the program.
type stepped struct {
	before impl.Town
	event  impl.Event
	after  impl.Town
}

// someSteps returns towns and events of many kinds, with what the program makes of them; too few of them are an error.
func someSteps(t *testing.T) []stepped {
	t.Helper()
	steps := []stepped{}
	d := &dice{seed: 181}
	for _, s := range someTowns() {
		for _, e := range eventsFor(d, s) {
			if after, ok := impl.ApplyEvent(s, e); ok {
				steps = append(steps, stepped{s, e, after})
			}
		}
	}
	for _, c := range someChronicles() {
		for i, e := range c.events {
			after, ok := impl.ApplyEvent(c.towns[i], e)
			if !ok {
				t.Errorf("ApplyEvent(%v, %v) is not possible", c.towns[i], e)
			}
			steps = append(steps, stepped{c.towns[i], e, after})
		}
	}
	if len(steps) < 2000 {
		t.Fatalf("only %d events are possible", len(steps))
	}
	return steps
}

// someHourSteps returns those of someSteps that are hours.
func someHourSteps(t *testing.T) []stepped {
	t.Helper()
	hours := []stepped{}
	for _, p := range someSteps(t) {
		if p.event.Kind == impl.EvHour {
			hours = append(hours, p)
		}
	}
	if len(hours) < 700 {
		t.Fatalf("only %d hours are possible", len(hours))
	}
	return hours
}

func TestP112TownsBalance(t *testing.T) {
	for _, s := range allTowns() {
		if !impl.ValidTown(s) || s.Came != accounted(s) {
			t.Errorf("ValidTown(%v) = false", s)
		}
		for _, came := range []int{0, s.Came - 1, s.Came + 1, s.Came - s.Lost, s.Came - s.Basin.Held, s.Came + s.Basin.Held, 2 * s.Came, 500, 1000000, -s.Came, greatestInt, leastInt} {
			other := s
			other.Came = came
			if impl.ValidTown(other) != (came == s.Came) {
				t.Errorf("ValidTown(%v) = %v", other, came != s.Came)
			}
		}
	}
}

func TestP112WaterIsNotMovedAlone(t *testing.T) {
	for _, s := range allTowns() {
		for _, step := range []int{-1, 1} {
			lost := s
			lost.Lost += step
			held := s
			held.Basin.Held += step
			held.Basin.Room += step
			if impl.ValidTown(lost) || impl.ValidTown(held) {
				t.Errorf("ValidTown of %v and of %v", lost, held)
			}
			for i := range s.Accounts[:min(3, len(s.Accounts))] {
				given := copyTown(s)
				given.Accounts[i].Units += step
				if impl.ValidTown(given) {
					t.Errorf("ValidTown(%v) = true", given)
				}
			}
		}
	}
}

func TestP113TownsBeginEmpty(t *testing.T) {
	for _, owner := range []int{1, 2, 77, 998, 999} {
		for _, room := range []int{0, 1, 30, 20000} {
			for _, rate := range []int{0, 1, 15, 500} {
				s := impl.NewTown(owner, room, rate)
				if !impl.ValidTown(s) || s.Came != 0 || s.Lost != 0 || s.Basin.Held != 0 || len(s.Accounts) != 0 || s.Time != 0 {
					t.Errorf("NewTown(%d, %d, %d) = %v", owner, room, rate, s)
				}
				if impl.ShareOf(s.Ledger, owner) != one() || impl.HoursIn(s.Turns, owner, 0, 5000) != 5000 || impl.WhoAt(s.Turns, 5000) != owner {
					t.Errorf("NewTown(%d, %d, %d) = %v", owner, room, rate, s)
				}
				if s.Rate != rate || s.Basin.Room != room || impl.LostIn(s.Nodes, 500) != 0 {
					t.Errorf("NewTown(%d, %d, %d) = %v", owner, room, rate, s)
				}
			}
		}
	}
}

func TestP114EventsKeepTheBalance(t *testing.T) {
	for _, p := range someSteps(t) {
		units := 0
		hours := 0
		if p.event.Kind == impl.EvHour {
			units = p.event.Number
			hours = 1
		}
		if !impl.ValidTown(p.after) || p.after.Came != p.before.Came+units || p.after.Time != p.before.Time+hours || p.after.Came != accounted(p.after) {
			t.Errorf("ApplyEvent(%v, %v) = %v", p.before, p.event, p.after)
		}
	}
}

func TestP114OtherEventsMoveNoWater(t *testing.T) {
	for _, p := range someSteps(t) {
		if p.event.Kind == impl.EvHour {
			if !sameLedger(p.after.Ledger, p.before.Ledger) || !sameTurns(p.after.Turns, p.before.Turns) || !sameNodes(p.after.Nodes, p.before.Nodes) {
				t.Errorf("an hour changes more than water in %v and %v", p.before, p.after)
			}
		} else if p.after.Basin != p.before.Basin || p.after.Lost != p.before.Lost || !sameAccounts(p.after.Accounts, p.before.Accounts) {
			t.Errorf("the event %v moves water in %v and %v", p.event, p.before, p.after)
		}
		if p.after.Rate != p.before.Rate || p.after.Basin.Room != p.before.Basin.Room {
			t.Errorf("the event %v changes what is wanted, or the room, in %v and %v", p.event, p.before, p.after)
		}
	}
}

func TestP115TheHourBelongsToItsOwner(t *testing.T) {
	opened := 0
	most := 0
	for _, p := range someHourSteps(t) {
		who := impl.WhoAt(p.before.Turns, p.before.Time)
		for owner := range 1000 {
			more := givenOf(p.after, owner) - givenOf(p.before, owner)
			if more < 0 || more > 0 && owner != who || more > p.before.Rate {
				t.Errorf("%d units for %d in the hour of %d, from %v to %v", more, owner, who, p.before, p.after)
			}
			if more > 0 && givenOf(p.before, owner) == 0 {
				opened++
			}
			if more > 0 && more == p.before.Rate {
				most++
			}
		}
	}
	if opened < 50 || most < 100 {
		t.Errorf("only %d times there is a new account, and %d times all is given that is wanted", opened, most)
	}
}

func TestP116AnHourIsAStepOfTheBasin(t *testing.T) {
	spilled := 0
	dry := 0
	for _, p := range someHourSteps(t) {
		delivered := 0
		passed := impl.PassedOf(p.before.Nodes, p.event.Number)
		for _, leaf := range impl.LeavesOf(p.before.Nodes) {
			delivered += passed[leaf]
		}
		after, give, spill := impl.StepBasin(p.before.Basin, delivered, p.before.Rate)
		lost := impl.LostIn(p.before.Nodes, p.event.Number)
		if p.after.Basin != after || p.after.Lost != p.before.Lost+lost+spill {
			t.Errorf("an hour of %d units from %v to %v, and not %v with %d lost, %d spilled", p.event.Number, p.before, p.after, after, lost, spill)
		}
		who := impl.WhoAt(p.before.Turns, p.before.Time)
		if givenOf(p.after, who) != givenOf(p.before, who)+give {
			t.Errorf("an hour of %d units from %v to %v, and not %d more for %d", p.event.Number, p.before, p.after, give, who)
		}
		if spill > 0 && lost > 0 {
			spilled++
		}
		if give == 0 {
			dry++
		}
	}
	if spilled < 50 || dry < 50 {
		t.Errorf("only %d times water spills and is lost, and %d times none is given", spilled, dry)
	}
}

func TestP117BooksAreRunEventByEvent(t *testing.T) {
	for _, c := range someChronicles() {
		for count := 1; count <= len(c.events); count++ {
			before, ok := impl.RunBook(c.start(), c.events[:count-1])
			if !ok {
				t.Fatalf("RunBook(%v, %v) is not possible", c.start(), c.events[:count-1])
			}
			want, fine := impl.ApplyEvent(before, c.events[count-1])
			got, ok := impl.RunBook(c.start(), c.events[:count])
			checkTown(t, "RunBook", got, ok, want, fine)
			if !fine {
				t.Errorf("ApplyEvent(%v, %v) is not possible", before, c.events[count-1])
			}
		}
	}
}

func TestP117BooksEndWithTheFirstEventThatIsNotPossible(t *testing.T) {
	d := &dice{seed: 191}
	done := 0
	not := 0
	for _, c := range someChronicles() {
		for _, e := range eventsFor(d, c.end()) {
			want, fine := impl.ApplyEvent(c.end(), e)
			got, ok := impl.RunBook(c.start(), append(append([]impl.Event{}, c.events...), e))
			if len(c.events) == 60 {
				checkNoTown(t, "RunBook of 61 events", got, ok)
				continue
			}
			checkTown(t, "RunBook", got, ok, want, fine)
			if fine {
				done++
			} else {
				not++
			}
		}
	}
	if done < 300 || not < 200 {
		t.Errorf("only %d events are possible, and %d are not", done, not)
	}
}

func TestP118AllWaterIsAccountedFor(t *testing.T) {
	d := &dice{seed: 193}
	lists := [][]impl.Event{longAgo(), nil, timesEvent(evHour(0), 60), timesEvent(evHour(500), 60)}
	for count := 1; count <= 60; count += 3 {
		lists = append(lists, madeChronicle(d, hamlet(5, 30, 15), count).events)
	}
	for _, events := range lists {
		for _, owner := range []int{1, 5} {
			for _, room := range []int{0, 30, 20000} {
				end, ok := impl.RunBook(impl.NewTown(owner, room, 15), events)
				if ok && (end.Came != cameIn(events) || accounted(end) != cameIn(events) || end.Time != hoursIn(events)) {
					t.Errorf("RunBook(%v) = %v", events, end)
				}
			}
		}
		first, okFirst := impl.RunBook(impl.NewTown(1, 30, 15), events)
		fifth, okFifth := impl.RunBook(impl.NewTown(5, 30, 15), events)
		if !okFirst && !okFifth {
			t.Errorf("RunBook(%v) = %v and %v", events, first, fifth)
		}
	}
}

func TestP119TheLedgerComesFromItsDeeds(t *testing.T) {
	changed := 0
	for _, c := range someChronicles() {
		deeds := []impl.Deed{}
		for _, e := range c.events {
			if e.Kind == impl.EvDeed {
				deeds = append(deeds, e.Deed)
			}
		}
		end, ok := impl.RunBook(c.start(), c.events)
		if len(deeds) > 20 {
			continue
		}
		want, fine := impl.RunDeeds(c.start().Ledger, deeds)
		checkLedger(t, "the ledger after RunBook", end.Ledger, ok, want, fine)
		if len(deeds) > 2 {
			changed++
		}
	}
	if changed < 15 {
		t.Errorf("only %d ledgers are changed by more than two deeds", changed)
	}
}

func TestP120HoursGiveWhatTurnsPromise(t *testing.T) {
	for _, turns := range someTurns() {
		for _, rate := range []int{0, 1, 15, 500} {
			for _, from := range []int{0, 5, 1000} {
				s := atTime(withTurns(hamlet(1, 0, rate), turns), from)
				for left := impl.PeriodOf(turns); left > 0; left -= 60 {
					after, ok := impl.RunBook(s, timesEvent(evHour(rate), min(60, left)))
					if !ok {
						t.Fatalf("RunBook(%v) is not possible", s)
					}
					s = after
				}
				for _, owner := range askedOwners(turns) {
					if got := impl.UnitsTo(s, owner); got != ownHours(turns, owner)*rate {
						t.Errorf("UnitsTo(%v, %d) = %d after a period of %v with %d units", s, owner, got, turns, rate)
					}
				}
				if s.Lost != 0 || s.Basin.Held != 0 || s.Time != from+impl.PeriodOf(turns) {
					t.Errorf("a period of %v with %d units leads to %v", turns, rate, s)
				}
			}
		}
	}
}

func TestP121AccountsAreTold(t *testing.T) {
	for _, s := range allTowns() {
		sum := 0
		for _, owner := range upTo(999) {
			units := impl.UnitsTo(s, owner)
			if units != givenOf(s, owner) {
				t.Errorf("UnitsTo(%v, %d) = %d", s, owner, units)
			}
			sum += units
		}
		if sum != s.Came-s.Lost-s.Basin.Held {
			t.Errorf("all of UnitsTo(%v) are %d together", s, sum)
		}
	}
}

func TestP121AccountsAreWhatWasGiven(t *testing.T) {
	for _, c := range someChronicles() {
		given := total(eachGiven(c))
		end, ok := impl.RunBook(c.start(), c.events)
		sum := 0
		for _, owner := range upTo(999) {
			sum += impl.UnitsTo(end, owner) - impl.UnitsTo(c.start(), owner)
		}
		if !ok || sum != given {
			t.Errorf("%d units were given, and %d more are in accounts of %v", given, sum, end)
		}
	}
}

// eachGiven returns what the basin gives in each hour of a chronicle.
func eachGiven(c chronicle) []int {
	list := []int{}
	for i, e := range c.events {
		if e.Kind == impl.EvHour {
			s := c.towns[i]
			_, give, _ := impl.StepBasin(s.Basin, e.Number-impl.LostIn(s.Nodes, e.Number), s.Rate)
			list = append(list, give)
		}
	}
	return list
}

// dressedEvents returns events that have texts, with other numbers in what their texts do not name.
func dressedEvents() []impl.Event {
	list := []impl.Event{}
	for i, en := range someEntries() {
		list = append(list, en.event, dressed(en.event, i, 1+i, frac(1, 1+i), twelve(i)), dressed(en.event, 9999, -7, frac(9, 0), twelve(-1)[:i%13]))
	}
	return list
}

func TestP122EventsAreReadBack(t *testing.T) {
	for _, e := range dressedEvents() {
		text := impl.FormatEvent(e)
		back, ok := impl.ParseEvent(text)
		if text == "" || !ok || impl.FormatEvent(back) != text || !sameEvent(back, undressed(e)) {
			t.Errorf("ParseEvent(%q) = %v, %v", text, back, ok)
		}
	}
}

func TestP123TextsTellAllThatMatters(t *testing.T) {
	d := &dice{seed: 197}
	done := 0
	not := 0
	for i, s := range someTowns() {
		for _, e := range eventsFor(d, s) {
			e = dressed(e, i, 7, frac(1, 2), []int{7, 7})
			text := impl.FormatEvent(e)
			if text == "" {
				continue
			}
			back, fine := impl.ParseEvent(text)
			if !fine {
				t.Errorf("ParseEvent(%q) = %v", text, back)
			}
			want, possible := impl.ApplyEvent(s, e)
			got, ok := impl.ApplyEvent(s, back)
			checkTown(t, "ApplyEvent of "+text, got, ok, want, possible)
			if possible {
				done++
			} else {
				not++
			}
		}
	}
	if done < 700 || not < 200 {
		t.Errorf("only %d events are possible, and %d are not", done, not)
	}
}

func TestP124EventsAreWrittenBack(t *testing.T) {
	for _, en := range someEntries() {
		e, ok := impl.ParseEvent(en.text)
		if !ok || impl.FormatEvent(e) != en.text {
			t.Errorf("ParseEvent(%q) = %v, %v", en.text, e, ok)
		}
	}
	valid := 0
	for _, en := range someEntries()[:160] {
		for _, text := range spoiledTexts(en.text) {
			e, ok := impl.ParseEvent(text)
			if ok && impl.FormatEvent(e) != text {
				t.Errorf("ParseEvent(%q) = %v", text, e)
			}
			if ok {
				valid++
			}
		}
	}
	if valid < 3000 {
		t.Errorf("only %d spoiled texts are those of events", valid)
	}
}

func TestP125BooksAreReadBack(t *testing.T) {
	read := 0
	for i, c := range someChronicles() {
		for _, events := range [][]impl.Event{c.events, append(append([]impl.Event{}, c.events...), evHour(501)), append([]impl.Event{evSwap(7, 99)}, c.events...)} {
			worn := []impl.Event{}
			for _, e := range events {
				worn = append(worn, dressed(e, i, 7, frac(1, 2), []int{7}))
			}
			book := impl.FormatBook(worn)
			if book == "" {
				continue
			}
			read++
			want, fine := impl.RunBook(c.start(), worn)
			got, ok := impl.RunBook(c.start(), impl.RecoverBook(book))
			checkTown(t, "RunBook of RecoverBook", got, ok, want, fine)
		}
	}
	if read < 150 {
		t.Errorf("only %d books are read back", read)
	}
}

func TestP126ATownGoesOnAfterACrash(t *testing.T) {
	torn := 0
	for _, c := range someChronicles() {
		if len(c.events) == 0 {
			continue
		}
		last := len(c.events) - 1
		book := impl.FormatBook(c.events)
		kept := len(impl.FormatBook(c.events[:last]))
		if book == "" {
			t.Fatalf("FormatBook(%v) is empty", c.events)
		}
		want, fine := impl.RunBook(c.start(), c.events[:last])
		whole, all := impl.RunBook(c.start(), c.events)
		for cut := kept; cut < len(book); cut++ {
			events := impl.RecoverBook(book[:cut])
			got, ok := impl.RunBook(c.start(), events)
			checkTown(t, "RunBook of a torn book", got, ok, want, fine)
			after, ok := impl.ApplyEvent(got, c.events[last])
			checkTown(t, "the last event after a crash", after, ok, whole, all)
			if len(events) != last || !fine || !all {
				t.Errorf("RecoverBook(%q) = %v", book[:cut], events)
			}
			torn++
		}
	}
	if torn < 300 {
		t.Errorf("only %d books are torn", torn)
	}
}

// someBooks returns texts of books, whole or spoiled, and texts that are no books.
func someBooks() []string {
	books := append(otherTexts(), texted(someEntries()[:60]), texted(someEntries()[:70]))
	d := &dice{seed: 199}
	for count := range 13 {
		list := []entry{}
		for range count {
			list = append(list, madeEntry(d))
		}
		book := texted(list)
		at := d.roll(len(book) + 1)
		books = append(books, book, book+"hour 5", book[:at]+"\n"+book[at:], book[:at]+" "+book[at:], book[:at]+"7"+book[at:], "\n"+book, book+"\n"+book, book+"what\n"+book)
	}
	return books
}

func TestP127WhatIsRecoveredWasWritten(t *testing.T) {
	recovered := 0
	for _, book := range someBooks() {
		events := impl.RecoverBook(book)
		text := impl.FormatBook(events)
		if len(text) > len(book) || text != book[:len(text)] || countOf(text, '\n') != len(events) {
			t.Errorf("FormatBook(RecoverBook(%q)) = %q", book, text)
		}
		recovered += len(events)
		for cut := range min(2000, len(book)) + 1 {
			part := impl.RecoverBook(book[:cut])
			if len(part) > len(events) || !sameEvents(part, events[:len(part)]) {
				t.Errorf("RecoverBook(%q) = %v, and of the whole %v", book[:cut], part, events)
			}
		}
	}
	if recovered < 500 {
		t.Errorf("only %d events are recovered", recovered)
	}
}

func TestP128EachLineHasAnAnswer(t *testing.T) {
	d := &dice{seed: 211}
	lines := append(otherTexts(), "who", "lost", "came", "held", "ledger", "units 1", "units 999999", "units 01", "who\nwho", "ledger\n", "\n\n\n")
	for _, s := range someTowns() {
		for count := range 21 {
			asked := []string{}
			for range count {
				asked = append(asked, lines[d.roll(len(lines))])
			}
			for _, book := range []string{"", "hour 5", "swap 0 24\n", "gate 0 1\ngate 0 2\n"} {
				if out := impl.RunDesk(s, book, asked); countOf(out, '\n') != count {
					t.Errorf("RunDesk(%v, %q, %q) = %q", s, book, asked, out)
				}
			}
		}
	}
}

func TestP129TheDeskTellsTheLedger(t *testing.T) {
	several := 0
	for _, c := range someChronicles() {
		book := impl.FormatBook(c.events)
		end, ok := impl.RunBook(c.start(), impl.RecoverBook(book))
		answer := impl.RunDesk(c.start(), book, []string{"ledger"})
		lines := ""
		for i := range len(answer) {
			if answer[i] == ',' {
				lines += "\n"
			} else {
				lines += answer[i : i+1]
			}
		}
		if text := impl.FormatLedger(end.Ledger); !ok || text == "" || lines != text || countOf(answer, '\n') != 1 {
			t.Errorf("the desk tells %q of %q", answer, text)
		}
		if len(end.Ledger) > 1 {
			several++
		}
	}
	if several < 30 {
		t.Errorf("only %d ledgers have several owners", several)
	}
}
