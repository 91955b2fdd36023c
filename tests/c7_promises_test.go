package tests

import (
	"testing"

	"loop.example/watershares/impl"
)

func TestP95HonestWaterComesAsExpected(t *testing.T) {
	for _, list := range someChannels() {
		for _, flow := range someCounts() {
			come := impl.FlowsOf(list, flow)
			if len(come) != len(list) {
				t.Fatalf("FlowsOf(%v, %d) = %v", list, flow, come)
			}
			checkMeasures(t, "ExpectedAt", list, come, impl.ExpectedAt(list, come), come)
			checkMeasures(t, "MissingAt", list, come, impl.MissingAt(list, come), steady(0, len(list)))
		}
	}
}

func TestP95ToTheSpringComesWhatIsMeasured(t *testing.T) {
	other := 0
	for _, m := range someMeasures() {
		expected := impl.ExpectedAt(m.list, m.measured)
		if len(expected) != len(m.list) || expected[0] != m.measured[0] {
			t.Fatalf("ExpectedAt(%v, %v) = %v", m.list, m.measured, expected)
		}
		if !sameList(expected, m.measured) {
			other++
		}
	}
	if other < 3000 {
		t.Errorf("only %d times the water is not as expected", other)
	}
}

func TestP96WhatIsTakenIsMissing(t *testing.T) {
	all := 0
	part := 0
	for _, c := range someThefts() {
		measured := impl.MeasuredWith(c.list, c.flow, c.taken)
		missing := impl.MissingAt(c.list, measured)
		expected := impl.ExpectedAt(c.list, measured)
		if len(measured) != len(c.list) || len(missing) != len(c.list) || len(expected) != len(c.list) || missing[0] != 0 {
			t.Fatalf("MissingAt(%v, %v) = %v", c.list, measured, missing)
		}
		for at := 1; at < len(c.list); at++ {
			if missing[at] != min(c.taken[at], expected[at]) || measured[at] != expected[at]-missing[at] {
				t.Errorf("MissingAt(%v, %v) = %v, and %v was taken", c.list, measured, missing, c.taken)
			}
			if missing[at] > 0 && measured[at] == 0 {
				all++
			} else if missing[at] > 0 {
				part++
			}
		}
	}
	if all < 3000 || part < 3000 {
		t.Errorf("only %d times all is taken, and %d times a part", all, part)
	}
}

func TestP96WhatIsTakenAtTheSpringIsNotLookedAt(t *testing.T) {
	for _, c := range someThefts() {
		measured := impl.MeasuredWith(c.list, c.flow, c.taken)
		for _, units := range []int{0, 1, 250, 500} {
			taken := copyOf(c.taken)
			taken[0] = units
			checkMeasures(t, "MeasuredWith", c.list, taken, impl.MeasuredWith(c.list, c.flow, taken), measured)
		}
		if len(measured) == 0 || measured[0] != c.flow {
			t.Errorf("MeasuredWith(%v, %d, %v) = %v", c.list, c.flow, c.taken, measured)
		}
	}
}

// afterNodes returns what passes the leaves by some measures, and what is lost: at the nodes, or as all gates are shut.
func afterNodes(list []impl.Node, measured []int) (int, int) {
	delivered := 0
	lost := 0
	for at, n := range list {
		passing := min(n.Room, max(0, measured[at]-n.Loss))
		lost += measured[at] - passing
		_, weights := kidsGet(list, at, measured)
		if len(kidsIn(list, at)) == 0 {
			delivered += passing
		} else if weights == 0 {
			lost += passing
		}
	}
	return delivered, lost
}

func TestP97AllWaterIsFoundAgain(t *testing.T) {
	found := 0
	for _, m := range someMeasures() {
		delivered, lost := afterNodes(m.list, m.measured)
		missing := total(impl.MissingAt(m.list, m.measured))
		if delivered+lost+missing != m.measured[0] {
			t.Errorf("of %d units, %d pass the leaves, %d are lost, and %d missing, by %v in %v", m.measured[0], delivered, lost, missing, m.measured, m.list)
		}
	}
	for _, c := range someThefts() {
		measured := impl.MeasuredWith(c.list, c.flow, c.taken)
		delivered, lost := afterNodes(c.list, measured)
		missing := total(impl.MissingAt(c.list, measured))
		if delivered+lost+missing != c.flow || missing > total(c.taken) {
			t.Errorf("of %d units, %d pass the leaves, %d are lost, and %d missing, by %v in %v", c.flow, delivered, lost, missing, measured, c.list)
		}
		if delivered > 0 && lost > 0 && missing > 0 {
			found++
		}
	}
	if found < 1000 {
		t.Errorf("only %d times some water passes the leaves, some is lost, and some missing", found)
	}
}

func TestP98SuspectsAreWhereWaterIsMissing(t *testing.T) {
	fewer := 0
	for _, m := range someMeasures() {
		missing := impl.MissingAt(m.list, m.measured)
		if len(missing) != len(m.list) {
			t.Fatalf("MissingAt(%v, %v) = %v", m.list, m.measured, missing)
		}
		before := indices(len(m.list))
		for _, slack := range []int{0, 1, 2, 5, 6, 7, 20, 60, 200, 499, 500} {
			suspects := impl.SuspectsOf(m.list, m.measured, slack)
			checkMeasures(t, "SuspectsOf", m.list, m.measured, suspects, moreThan(missing, slack))
			if others := numbersWithout(suspects, before); len(others) > 0 {
				t.Errorf("SuspectsOf(%v, %v) with slack %d = %v, and with less %v", m.list, m.measured, slack, suspects, before)
			}
			if slack > 0 && len(suspects) > 0 && len(suspects) < len(before) {
				fewer++
			}
			before = suspects
		}
	}
	if fewer < 1000 {
		t.Errorf("only %d times there are fewer suspects with more slack", fewer)
	}
}

func TestP99HonestPeopleAreNotSuspected(t *testing.T) {
	for _, list := range someChannels() {
		for flow := range 501 {
			if suspects := impl.SuspectsOf(list, impl.FlowsOf(list, flow), 0); len(suspects) != 0 {
				t.Fatalf("SuspectsOf(%v) = %v of %d units", list, suspects, flow)
			}
		}
	}
}

func TestP99OneTakerIsTheOnlySuspect(t *testing.T) {
	caught := 0
	let := 0
	for _, list := range someChannels() {
		for at := range list {
			for _, units := range []int{1, 4, 30, 500} {
				for _, flow := range []int{3, 50, 333, 500} {
					measured := impl.MeasuredWith(list, flow, takenAt(len(list), at, units))
					for _, slack := range []int{0, 3, 29, 500} {
						suspects := impl.SuspectsOf(list, measured, slack)
						if len(numbersWithout(suspects, []int{at})) > 0 || len(suspects) > 1 {
							t.Errorf("SuspectsOf(%v, %v) = %v, and only %d takes", list, measured, suspects, at)
						}
						if at > 0 && (len(suspects) == 1) != (min(units, impl.ExpectedAt(list, measured)[at]) > slack) {
							t.Errorf("SuspectsOf(%v, %v) with slack %d = %v, and %d takes %d", list, measured, slack, suspects, at, units)
						}
						if len(suspects) == 1 {
							caught++
						} else {
							let++
						}
					}
				}
			}
		}
	}
	if caught < 2000 || let < 2000 {
		t.Errorf("only %d takers are suspects, and %d are not", caught, let)
	}
}

func TestP100WhoTakesNothingChangesNothing(t *testing.T) {
	for _, list := range someChannels() {
		nodes := len(list)
		for _, flow := range someCounts() {
			come := impl.FlowsOf(list, flow)
			checkMeasures(t, "MeasuredWith nothing", list, nil, impl.MeasuredWith(list, flow, steady(0, nodes)), come)
			checkMeasures(t, "MeasuredWith what is taken at the spring", list, nil, impl.MeasuredWith(list, flow, takenAt(nodes, 0, 77)), come)
		}
	}
}

func TestP100WhereSomethingIsTakenNoMoreIsMeasured(t *testing.T) {
	less := 0
	for _, list := range someChannels() {
		for at := 1; at < len(list); at++ {
			for _, flow := range []int{9, 100, 300, 500} {
				come := impl.FlowsOf(list, flow)
				for _, units := range []int{1, 5, 40, 500} {
					measured := impl.MeasuredWith(list, flow, takenAt(len(list), at, units))
					if len(measured) != len(list) || measured[at] != max(0, come[at]-units) {
						t.Fatalf("MeasuredWith(%v, %d) = %v, and %d are taken at %d of %v", list, flow, measured, units, at, come)
					}
					for other := range list {
						below := isOneOf(at, pathsIn(list)[other])
						if measured[other] > come[other] || !below && measured[other] != come[other] {
							t.Errorf("MeasuredWith(%v, %d) = %v, and %d are taken at %d of %v", list, flow, measured, units, at, come)
						}
						if other != at && measured[other] < come[other] {
							less++
						}
					}
				}
			}
		}
	}
	if less < 1000 {
		t.Errorf("only %d times less comes further down", less)
	}
}

func TestP101CustomsCanBeGivenUp(t *testing.T) {
	for _, list := range someRules() {
		for at := range list {
			if less := withoutRule(list, at); !impl.ValidRules(less) {
				t.Errorf("ValidRules(%v) = false", less)
			}
		}
	}
	if !impl.ValidRules(nil) || !impl.ValidRules([]impl.Rule{}) {
		t.Error("no customs are not valid")
	}
	if list := timesRule(always(0), 11); impl.ValidRules(list) || !impl.ValidRules(withoutRule(list, 5)) {
		t.Error("eleven customs are valid, or ten are not")
	}
}

func TestP102TheFirstCustomDecides(t *testing.T) {
	later := 0
	none := 0
	for _, list := range someRules() {
		for _, a := range askedAffairs(list) {
			first := impl.FirstRule(list, a.hour, a.units)
			verdict := impl.VerdictOf(list, a.hour, a.units)
			if first < -1 || first >= len(list) {
				t.Fatalf("FirstRule(%v, %v) = %d", list, a, first)
			}
			before := list
			want := -1
			if first >= 0 {
				before = list[:first]
				want = list[first].Verdict
			}
			if first >= 0 && !a.isUnder(list[first]) || verdict != want {
				t.Errorf("FirstRule(%v, %v) = %d, and VerdictOf %d", list, a, first, verdict)
			}
			for _, rule := range before {
				if a.isUnder(rule) {
					t.Errorf("FirstRule(%v, %v) = %d, and %v is a custom before it", list, a, first, rule)
				}
			}
			if first > 0 {
				later++
			} else if first < 0 {
				none++
			}
		}
	}
	if later < 5000 || none < 5000 {
		t.Errorf("only %d times the first custom is a later one, and %d times there is none", later, none)
	}
}

func TestP103OtherCustomsDoNotMatter(t *testing.T) {
	decided := 0
	for _, list := range someRules() {
		for _, a := range askedAffairs(list) {
			first := impl.FirstRule(list, a.hour, a.units)
			verdict := impl.VerdictOf(list, a.hour, a.units)
			if first >= 0 {
				decided++
				if alone := impl.VerdictOf([]impl.Rule{list[first]}, a.hour, a.units); alone != verdict {
					t.Errorf("VerdictOf(%v, %v) = %d, and of FirstRule alone %d", list, a, verdict, alone)
				}
			}
			for at := range list {
				if at == first {
					continue
				}
				if less := impl.VerdictOf(withoutRule(list, at), a.hour, a.units); less != verdict {
					t.Errorf("VerdictOf(%v, %v) = %d, and without %d %d", list, a, verdict, at, less)
				}
			}
		}
	}
	if decided < 5000 {
		t.Errorf("only %d cases are decided", decided)
	}
}

// firstsOf returns the customs that are FirstRule for any case.
func firstsOf(list []impl.Rule) []int {
	is := steady(0, len(list))
	for hour := range 24 {
		for units := range 501 {
			if at := impl.FirstRule(list, hour, units); at >= 0 {
				is[at] = 1
			}
		}
	}
	return moreThan(is, 0)
}

func TestP104DeadCustomsAreNeverTheFirst(t *testing.T) {
	dead := 0
	alive := 0
	for _, list := range someRules() {
		firsts := firstsOf(list)
		if got := impl.DeadRules(list); !sameList(got, numbersWithout(indices(len(list)), firsts)) {
			t.Errorf("DeadRules(%v) = %v, and the first ones are %v", list, got, firsts)
		}
		alive += len(firsts)
		dead += len(list) - len(firsts)
	}
	if dead < 100 || alive < 300 {
		t.Errorf("only %d customs are dead, and %d are not", dead, alive)
	}
}

func TestP104DeadCustomsCanBeGivenUp(t *testing.T) {
	for _, list := range someRules() {
		left := copyRules(list)
		for _, at := range reversed(impl.DeadRules(list)) {
			left = withoutRule(left, at)
		}
		for _, a := range askedAffairs(list) {
			if verdict, other := impl.VerdictOf(list, a.hour, a.units), impl.VerdictOf(left, a.hour, a.units); verdict != other {
				t.Errorf("VerdictOf(%v, %v) = %d, and without dead customs %d", list, a, verdict, other)
			}
		}
		if dead := impl.DeadRules(left); len(dead) != 0 {
			t.Errorf("DeadRules(%v) = %v, and these were given up", left, dead)
		}
	}
}

// daysOf returns how many of some days each weight has.
func daysOf(order []int, weights int) []int {
	days := steady(0, weights)
	for _, at := range order {
		days[at]++
	}
	return days
}

func TestP105DutiesFollowTheWeights(t *testing.T) {
	for _, weights := range someWeights() {
		order := impl.DutyOrder(500, weights)
		if len(order) != 500 {
			t.Fatalf("DutyOrder(500, %v) has %d days", weights, len(order))
		}
		for days := 0; days <= 500; days += 1 + days/40 {
			if !sameList(daysOf(order[:days], len(weights)), impl.SplitByMiddle(days, weights)) {
				t.Errorf("DutyOrder of %v gives %v in %d days", weights, daysOf(order[:days], len(weights)), days)
			}
			if !sameList(impl.DutyOrder(days, weights), order[:days]) {
				t.Errorf("DutyOrder(%d, %v) is not the beginning of that of more days", days, weights)
			}
		}
	}
}

func TestP105EachDayIsOneDayMore(t *testing.T) {
	for _, weights := range [][]int{{2, 1}, {6, 3, 1}, {0, 5, 0, 7}, {1000, 1, 999}, {1, 2, 3, 4, 5, 6, 7, 8, 9, 10, 11, 12}} {
		order := impl.DutyOrder(500, weights)
		for day := range 500 {
			more := minus(impl.SplitByMiddle(day+1, weights), impl.SplitByMiddle(day, weights))
			if !sameList(more, daysOf(order[day:day+1], len(weights))) {
				t.Errorf("DutyOrder of %v gives the day %d to %d, and SplitByMiddle is greater by %v", weights, day, order[day], more)
			}
		}
	}
}

func TestP106EqualWeightsTakeTurns(t *testing.T) {
	for count := 1; count <= 12; count++ {
		for _, weight := range []int{1, 2, 7, 500, 999, 1000} {
			for _, days := range someCounts() {
				order := impl.DutyOrder(days, steady(weight, count))
				if len(order) != days {
					t.Fatalf("DutyOrder(%d) of %d times %d = %v", days, count, weight, order)
				}
				for day, at := range order {
					if at != day%count {
						t.Errorf("DutyOrder(%d) of %d times %d = %v: the day %d", days, count, weight, order, day)
					}
				}
			}
		}
	}
}

func TestP107PlotsCanLieFallow(t *testing.T) {
	less := 0
	same := 0
	for _, list := range somePlots() {
		for at := range list {
			left := withoutPlot(list, at)
			if !impl.ValidPlots(left) {
				t.Fatalf("ValidPlots(%v) = false", left)
			}
			for _, water := range someCounts() {
				all := impl.BestYield(list, water)
				yield := impl.BestYield(left, water)
				if yield > all || yield < 0 || yield < all-list[at].Yield {
					t.Errorf("BestYield(%v, %d) = %d, and without %d %d", list, water, all, at, yield)
				}
				if yield < all {
					less++
				} else {
					same++
				}
			}
		}
	}
	if !impl.ValidPlots(nil) || !impl.ValidPlots([]impl.Plot{}) || less < 2000 || same < 2000 {
		t.Errorf("only %d times the yield is less without a plot, and %d times the same", less, same)
	}
}

// yieldOf returns what all plots yield.
func yieldOf(list []impl.Plot) int {
	sum := 0
	for _, plot := range list {
		sum += plot.Yield
	}
	return sum
}

func TestP108MoreWaterYieldsMore(t *testing.T) {
	more := 0
	for _, list := range somePlots() {
		before := 0
		for water := range 501 {
			yield := impl.BestYield(list, water)
			if yield < before || yield > yieldOf(list) {
				t.Fatalf("BestYield(%v, %d) = %d, and with 1 unit less %d", list, water, yield, before)
			}
			for _, plot := range list {
				if plot.Need <= water && yield < plot.Yield {
					t.Errorf("BestYield(%v, %d) = %d, less than %v alone", list, water, yield, plot)
				}
			}
			if yield > before && before > 0 {
				more++
			}
			before = yield
		}
	}
	if more < 500 {
		t.Errorf("only %d times more water yields more", more)
	}
}

// exchangedPlots returns the plots that are chosen with another one in the place of one of them.
func exchangedPlots(plots []int, i int, other int) []int {
	after := copyOf(plots)
	after[i] = other
	return after
}

// checkNoBetter checks that a choice of plots needs too much, or yields no more than the best one.
func checkNoBetter(t *testing.T, list []impl.Plot, plots []int, water int, best int) {
	t.Helper()
	if need, yield := impl.PlotsNeed(list, plots); need < 0 || need <= water && yield > best {
		t.Errorf("%v of %v need %d of %d units, and yield %d, not %d", plots, list, need, water, yield, best)
	}
}

func TestP109TheBestPlotsAreTheBest(t *testing.T) {
	tried := 0
	for _, list := range somePlots() {
		for _, water := range askedWaters(list) {
			plots := impl.BestPlots(list, water)
			need, yield := impl.PlotsNeed(list, plots)
			if need < 0 || need > water || yield != impl.BestYield(list, water) {
				t.Fatalf("BestPlots(%v, %d) = %v, which need %d and yield %d", list, water, plots, need, yield)
			}
			for i := 1; i < len(plots); i++ {
				if plots[i] <= plots[i-1] {
					t.Errorf("BestPlots(%v, %d) = %v", list, water, plots)
				}
			}
			for _, other := range numbersWithout(indices(len(list)), plots) {
				checkNoBetter(t, list, append(copyOf(plots), other), water, yield)
				for i := range plots {
					tried++
					checkNoBetter(t, list, exchangedPlots(plots, i, other), water, yield)
				}
			}
		}
	}
	if tried < 10000 {
		t.Errorf("only %d plots are put in the place of another one", tried)
	}
}

func TestP109NoChoiceOfPlotsIsBetter(t *testing.T) {
	for _, list := range fewPlots() {
		choices := choicesOf(list)
		for _, water := range []int{0, 1, 5, 10, 14, 50, 250, 499, 500} {
			best := impl.BestYield(list, water)
			for _, c := range choices {
				checkNoBetter(t, list, c.plots, water, best)
			}
		}
	}
}

func TestP110PlotsAddUp(t *testing.T) {
	d := &dice{seed: 157}
	enough := 0
	for _, list := range somePlots() {
		for range 20 {
			order := mixed(d, len(list))
			plots := order[:d.roll(len(order)+1)]
			need, yield := impl.PlotsNeed(list, plots)
			for _, at := range []int{len(plots) / 2, d.roll(len(plots) + 1)} {
				firstNeed, firstYield := impl.PlotsNeed(list, plots[:at])
				otherNeed, otherYield := impl.PlotsNeed(list, plots[at:])
				if need != firstNeed+otherNeed || yield != firstYield+otherYield || firstNeed < 0 || otherNeed < 0 {
					t.Errorf("PlotsNeed(%v, %v) = %d, %d, and parted %d, %d and %d, %d", list, plots, need, yield, firstNeed, firstYield, otherNeed, otherYield)
				}
			}
			for _, water := range []int{need, need + 1, 500} {
				if water > 500 || need > water {
					continue
				}
				enough++
				if best := impl.BestYield(list, water); yield > best {
					t.Errorf("%v of %v need %d and yield %d, and BestYield is %d", plots, list, need, yield, best)
				}
			}
		}
	}
	if enough < 3000 {
		t.Errorf("only %d times there is water enough", enough)
	}
}

func TestP111FromTheBasinToTheHarvest(t *testing.T) {
	d := &dice{seed: 163}
	grown := 0
	for _, s := range someSeasons() {
		hours := len(s.come)
		for _, b := range fewBasins() {
			sure := impl.SureFlow(b, s.come)
			list := madePlots(d, d.roll(11))
			need, yield := impl.PlotsNeed(list, impl.BestPlots(list, sure))
			if sure < 0 || need < 0 || need > sure || yield != impl.BestYield(list, sure) {
				t.Fatalf("BestPlots(%v, %d) need %d and yield %d", list, sure, need, yield)
			}
			if lacks := impl.ShortOf(b, s.come, steady(need, hours)); lacks != 0 {
				t.Errorf("the plots need %d in each hour, and %d are lacking of %v with %v", need, lacks, s.come, b)
			}
			if need > 0 && need < sure {
				grown++
			}
		}
	}
	if grown < 1000 {
		t.Errorf("only %d times some plots are grown", grown)
	}
}
