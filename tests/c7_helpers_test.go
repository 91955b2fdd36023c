package tests

import (
	"testing"

	"loop.example/watershares/impl"
)

// takenAt returns what is taken on the way to the nodes of a channel by one taker.
func takenAt(nodes int, at int, units int) []int {
	taken := steady(0, nodes)
	taken[at] = units
	return taken
}

// madeTaking returns what is taken without a pattern, by takers at several nodes: some take few units, some many, and some all.
func madeTaking(d *dice, nodes int) []int {
	taken := []int{}
	for range nodes {
		switch d.roll(6) {
		case 0, 1:
			taken = append(taken, 0)
		case 2, 3:
			taken = append(taken, d.roll(8))
		case 4:
			taken = append(taken, d.roll(120))
		default:
			taken = append(taken, 500)
		}
	}
	return taken
}

// someTakings returns what is taken by nobody, by everybody, by one taker, and by takers at several nodes.
func someTakings(d *dice, nodes int) [][]int {
	lists := [][]int{steady(0, nodes), steady(1, nodes), steady(7, nodes), steady(500, nodes)}
	for at := range nodes {
		lists = append(lists, takenAt(nodes, at, 1+d.roll(40)))
	}
	for range 6 {
		lists = append(lists, madeTaking(d, nodes))
	}
	return lists
}

// theft is units that come to the spring of a channel, and what is taken on the way to its nodes.
type theft struct {
	list  []impl.Node
	flow  int
	taken []int
}

// someThefts returns units and what is taken of them in channels of many kinds.
func someThefts() []theft {
	d := &dice{seed: 127}
	thefts := []theft{}
	for _, list := range someChannels() {
		for _, taken := range someTakings(d, len(list)) {
			for _, flow := range []int{d.roll(30), 20 + d.roll(100), d.roll(501), 500} {
				thefts = append(thefts, theft{list, flow, taken})
			}
		}
	}
	return thefts
}

// measures is a channel, and how many units were measured at each of its nodes.
type measures struct {
	list     []impl.Node
	measured []int
}

// someMeasures returns measures in channels of many kinds, also such that no water runs by: more than there is, or nothing.
func someMeasures() []measures {
	d := &dice{seed: 131}
	all := []measures{}
	for _, list := range someChannels() {
		nodes := len(list)
		lists := [][]int{steady(0, nodes), steady(500, nodes), steady(1+d.roll(60), nodes), takenAt(nodes, 0, 500), takenAt(nodes, d.roll(nodes), 250)}
		for _, most := range []int{4, 30, 200, 500} {
			lists = append(lists, rolls(d, nodes, most), rolls(d, nodes, most))
		}
		for _, measured := range lists {
			all = append(all, measures{list, measured})
		}
	}
	for _, c := range someThefts() {
		all = append(all, measures{c.list, measuredBy(c)})
	}
	return all
}

// rolls returns numbers of at most most, without a pattern.
func rolls(d *dice, count int, most int) []int {
	list := []int{}
	for range count {
		list = append(list, d.roll(most+1))
	}
	return list
}

// badNodeUnits returns lists that are not numbers of units of the nodes of a channel.
func badNodeUnits(nodes int) [][]int {
	lists := [][]int{nil, {}, steady(1, nodes-1), steady(1, nodes+1), steady(0, nodes+1), steady(1, nodes+100), {greatestInt, leastInt, 3, 3, 3, 3, 3, 3, 3, 3, 3, 3, 3}}
	for at := range nodes {
		for _, bad := range badCounts() {
			lists = append(lists, takenAt(nodes, at, bad))
		}
	}
	return lists
}

// measuredBy tells MeasuredWith by letting one unit after the other run down from the spring: on the way to each node the first ones are taken.
func measuredBy(c theft) []int {
	nodes := len(c.list)
	sent := tally{come: steady(0, nodes)}
	came := tally{come: steady(0, nodes), pass: steady(0, nodes)}
	for range c.flow {
		at := 0
		for at != -1 {
			sent.come[at]++
			if at > 0 && sent.come[at] <= c.taken[at] {
				break
			}
			came.come[at]++
			if came.stopsAt(c.list[at], at) {
				break
			}
			came.pass[at]++
			at = sent.next(c.list, at)
		}
	}
	return came.come
}

// expectedBy tells ExpectedAt by letting the units that were measured at each node run on to its kids, one after the other.
func expectedBy(m measures) []int {
	nodes := len(m.list)
	sent := tally{come: steady(0, nodes)}
	sent.come[0] = m.measured[0]
	for at, units := range m.measured {
		here := tally{come: steady(0, nodes), pass: steady(0, nodes)}
		for range units {
			here.come[at]++
			if here.stopsAt(m.list[at], at) {
				continue
			}
			here.pass[at]++
			if kid := sent.next(m.list, at); kid != -1 {
				sent.come[kid]++
			}
		}
	}
	return sent.come
}

// moreThan returns the indices of the numbers greater than a number.
func moreThan(list []int, n int) []int {
	found := []int{}
	for i, other := range list {
		if other > n {
			found = append(found, i)
		}
	}
	return found
}

// custom returns a custom.
func custom(from int, to int, low int, high int, verdict int) impl.Rule {
	return impl.Rule{From: from, To: to, Low: low, High: high, Verdict: verdict}
}

// always returns the custom for all cases.
func always(verdict int) impl.Rule {
	return custom(0, 23, 0, 500, verdict)
}

// copyRules returns a copy of customs.
func copyRules(list []impl.Rule) []impl.Rule {
	return append([]impl.Rule{}, list...)
}

// withoutRule returns customs without one of them.
func withoutRule(list []impl.Rule, at int) []impl.Rule {
	return append(copyRules(list[:at]), list[at+1:]...)
}

// sameRules reports whether two lists have the same customs.
func sameRules(a []impl.Rule, b []impl.Rule) bool {
	if len(a) != len(b) {
		return false
	}
	for i := range a {
		if a[i] != b[i] {
			return false
		}
	}
	return true
}

// timesRule returns a custom so many times, each time with another verdict.
func timesRule(rule impl.Rule, times int) []impl.Rule {
	list := []impl.Rule{}
	for i := range times {
		rule.Verdict = i
		list = append(list, rule)
	}
	return list
}

// stripes returns so many customs that are together for all hours, and all units but one.
func stripes(count int) []impl.Rule {
	list := []impl.Rule{}
	for i := range count {
		list = append(list, custom(0, 23, 500*i/count, 500*(i+1)/count-1, 10+i))
	}
	return list
}

// quarters returns four customs that are together for some cases without a gap.
func quarters(from int, to int, low int, high int) []impl.Rule {
	noon := (from + to) / 2
	half := (low + high) / 2
	return []impl.Rule{custom(from, noon, low, half, 1), custom(noon+1, to, low, half, 2), custom(from, noon, half+1, high, 3), custom(noon+1, to, half+1, high, 4)}
}

// fewRules returns valid customs made by hand, those at the limits among them.
func fewRules() [][]impl.Rule {
	day := quarters(0, 23, 0, 500)
	part := quarters(5, 9, 100, 109)
	return [][]impl.Rule{
		nil, {}, {{}}, {always(0)}, {always(99)}, {custom(23, 23, 500, 500, 99)}, {custom(0, 0, 0, 0, 99)}, {custom(23, 23, 0, 0, 1)}, {custom(0, 0, 500, 500, 1)}, {custom(5, 5, 0, 500, 7)}, {custom(0, 23, 7, 7, 5)},
		{custom(6, 20, 0, 50, 1), always(2), custom(7, 8, 10, 20, 3)},
		{always(1), always(2)}, {always(1), custom(3, 3, 3, 3, 2)}, {custom(3, 3, 3, 3, 2), always(1)}, {custom(3, 8, 3, 8, 1), custom(3, 8, 3, 8, 1)}, {custom(3, 8, 3, 8, 1), custom(4, 8, 3, 8, 1), custom(3, 9, 3, 8, 1), custom(3, 8, 2, 8, 1), custom(3, 8, 3, 9, 1)},
		// Two customs that cover a third one only together, by hours, by units, and by an overlap of both.
		{custom(0, 5, 0, 9, 0), custom(0, 5, 5, 20, 0), custom(3, 5, 2, 20, 0)}, {custom(0, 11, 0, 500, 1), custom(12, 23, 0, 500, 2), always(3)}, {custom(0, 23, 0, 250, 1), custom(0, 23, 251, 500, 2), custom(5, 9, 200, 300, 3), always(4)}, {custom(0, 11, 0, 500, 1), custom(13, 23, 0, 500, 2), always(3), custom(12, 12, 0, 500, 4)},
		// Four quarters, and with one case left.
		append(day, always(5)), append(copyRules(day[:3]), custom(12, 23, 251, 499, 4), always(5), always(6)), append(copyRules(day[:3]), custom(12, 22, 251, 500, 4), always(5), custom(23, 23, 251, 500, 6)),
		append(part, custom(5, 9, 100, 109, 5), custom(4, 9, 100, 109, 6), custom(5, 9, 100, 110, 7), custom(4, 9, 100, 109, 8)),
		timesRule(always(0), 10), timesRule(custom(7, 7, 70, 70, 0), 10), timesRule(custom(0, 0, 0, 0, 0), 2), stripes(10), append(stripes(8), always(1), always(2)), append(stripes(9), always(1)), append([]impl.Rule{custom(0, 23, 500, 500, 3)}, append(stripes(8), always(1))...),
	}
}

// madeSpan returns the first and the last one of some numbers in 0..most next to each other, without a pattern; some spans are short, some have all numbers, and some begin or end at a limit.
func madeSpan(d *dice, most int) (int, int) {
	first := d.roll(most + 1)
	last := first + d.roll(most+1-first)
	switch d.roll(6) {
	case 0:
		return 0, most
	case 1:
		return 0, last
	case 2:
		return first, most
	case 3:
		return first, min(most, first+d.roll(3))
	}
	return first, last
}

// madeRules returns customs without a pattern: those of one list are for any units, or for few, so that most are for the same cases.
func madeRules(d *dice, count int) []impl.Rule {
	list := []impl.Rule{}
	most := []int{500, 12, 3}[d.roll(3)]
	hours := []int{23, 5}[d.roll(2)]
	for range count {
		from, to := madeSpan(d, hours)
		low, high := madeSpan(d, most)
		list = append(list, custom(from, to, low, high, d.roll(100)))
	}
	return list
}

// someRules returns valid customs of many kinds.
func someRules() [][]impl.Rule {
	lists := fewRules()
	d := &dice{seed: 137}
	for count := 1; count <= 10; count++ {
		for range 12 {
			lists = append(lists, madeRules(d, count))
		}
	}
	return lists
}

// badRules returns customs that are not valid.
func badRules() [][]impl.Rule {
	lists := [][]impl.Rule{timesRule(always(0), 11), stripes(11), timesRule(custom(3, 3, 3, 3, 0), 12), timesRule(always(0), 100)}
	for _, bad := range []impl.Rule{
		custom(-1, 5, 0, 9, 1), custom(5, 24, 0, 9, 1), custom(5, 4, 0, 9, 1), custom(23, 0, 0, 9, 1), custom(24, 24, 0, 9, 1), custom(-1, -1, 0, 9, 1), custom(-5, -3, 0, 9, 1),
		custom(0, 23, -1, 9, 1), custom(0, 23, 5, 501, 1), custom(0, 23, 5, 4, 1), custom(0, 23, 500, 0, 1), custom(0, 23, 501, 501, 1), custom(0, 23, -1, -1, 1), custom(0, 23, -9, -4, 1),
		custom(0, 23, 0, 500, -1), custom(0, 23, 0, 500, 100), custom(0, 23, 0, 500, greatestInt), custom(0, 23, 0, 500, leastInt),
		custom(0, greatestInt, 0, 500, 1), custom(leastInt, 23, 0, 500, 1), custom(greatestInt, greatestInt, 0, 500, 1), custom(leastInt, leastInt, 0, 500, 1), custom(greatestInt, leastInt, 0, 500, 1), custom(leastInt, greatestInt, 0, 500, 1),
		custom(0, 23, 0, greatestInt, 1), custom(0, 23, leastInt, 500, 1), custom(0, 23, greatestInt, leastInt, 1), custom(0, 23, leastInt, greatestInt, 1),
	} {
		lists = append(lists, []impl.Rule{bad}, []impl.Rule{bad, always(1)}, []impl.Rule{always(1), bad}, []impl.Rule{always(1), bad, always(2)}, append(stripes(9), bad))
	}
	return lists
}

// paintOf tells FirstRule for each hour of the day and all units: the customs are painted over each other, the first one at last.
func paintOf(list []impl.Rule) [][]int {
	paint := [][]int{}
	for range 24 {
		paint = append(paint, steady(-1, 501))
	}
	for i := len(list) - 1; i >= 0; i-- {
		for hour := list[i].From; hour <= list[i].To; hour++ {
			for units := list[i].Low; units <= list[i].High; units++ {
				paint[hour][units] = i
			}
		}
	}
	return paint
}

// deadIn returns the customs of which nothing is seen when they are painted over each other.
func deadIn(list []impl.Rule) []int {
	seen := []int{}
	for _, units := range paintOf(list) {
		for _, first := range units {
			if !isOneOf(first, seen) {
				seen = append(seen, first)
			}
		}
	}
	return numbersWithout(indices(len(list)), seen)
}

// affair is a case of customs.
type affair struct {
	hour  int
	units int
}

// isUnder reports whether a custom is one for a case.
func (a affair) isUnder(rule impl.Rule) bool {
	return rule.From <= a.hour && a.hour <= rule.To && rule.Low <= a.units && a.units <= rule.High
}

// askedAffairs returns cases, those at the limits of customs, and beyond them, among them.
func askedAffairs(list []impl.Rule) []affair {
	hours := []int{-1, 0, 13, 23, 24}
	units := []int{-1, 0, 250, 500, 501}
	for _, rule := range list {
		hours = append(hours, rule.From-1, rule.From, rule.To, rule.To+1)
		units = append(units, rule.Low-1, rule.Low, rule.High, rule.High+1)
	}
	affairs := []affair{}
	for i, hour := range hours {
		for k, n := range units {
			if !isOneOf(hour, hours[:i]) && !isOneOf(n, units[:k]) {
				affairs = append(affairs, affair{hour, n})
			}
		}
	}
	return affairs
}

// badAffairs returns cases that are for no custom.
func badAffairs() []affair {
	return []affair{
		{-1, 0}, {24, 0}, {25, 5}, {-24, 5}, {greatestInt, 5}, {leastInt, 5}, {0, -1}, {0, 501}, {23, 501}, {23, -1}, {5, greatestInt}, {5, leastInt}, {-1, -1}, {24, 501}, {greatestInt, greatestInt}, {leastInt, leastInt},
	}
}

// dutiesOf tells DutyOrder by a ranking: the day of each unit of a weight is as late as units of all weights have greater averages.
func dutiesOf(days int, weights []int) []int {
	order := steady(-1, days)
	for i, w := range weights {
		for u := 0; u < days && w > 0; u++ {
			day := u
			for k, v := range weights {
				if k != i && v > 0 {
					day += averagesFrom(v, w, u, k < i)
				}
			}
			if day < days {
				order[day] = i
			}
		}
	}
	return order
}

// averagesFrom returns how many averages of the weight v are greater than that of the weight w with the number u; equal ones count if first is set.
func averagesFrom(v int, w int, u int, first bool) int {
	reach := v * (2*u + 1)
	if !first {
		reach--
	}
	// The weight v is divided by an odd number for each average.
	return (reach/w + 1) / 2
}

// plotOf returns a plot.
func plotOf(need int, yield int) impl.Plot {
	return impl.Plot{Need: need, Yield: yield}
}

// timesPlot returns a plot so many times.
func timesPlot(plot impl.Plot, times int) []impl.Plot {
	list := []impl.Plot{}
	for range times {
		list = append(list, plot)
	}
	return list
}

// copyPlots returns a copy of plots.
func copyPlots(list []impl.Plot) []impl.Plot {
	return append([]impl.Plot{}, list...)
}

// withoutPlot returns plots without one of them.
func withoutPlot(list []impl.Plot, at int) []impl.Plot {
	return append(copyPlots(list[:at]), list[at+1:]...)
}

// samePlots reports whether two lists have the same plots.
func samePlots(a []impl.Plot, b []impl.Plot) bool {
	if len(a) != len(b) {
		return false
	}
	for i := range a {
		if a[i] != b[i] {
			return false
		}
	}
	return true
}

// fewPlots returns valid plots made by hand, those at the limits among them.
func fewPlots() [][]impl.Plot {
	return [][]impl.Plot{
		nil, {}, {plotOf(0, 1)}, {plotOf(0, 1000)}, {plotOf(500, 1)}, {plotOf(500, 1000)}, {plotOf(1, 1)}, {plotOf(7, 30)},
		{plotOf(5, 10), plotOf(7, 15), plotOf(2, 3), plotOf(20, 42)},
		// Plots that need nothing, alone and among others.
		{plotOf(0, 5), plotOf(0, 7), plotOf(0, 1)}, {plotOf(0, 5), plotOf(3, 4), plotOf(0, 2)}, {plotOf(3, 4), plotOf(0, 5), plotOf(500, 1000)}, {plotOf(500, 1000), plotOf(0, 1), plotOf(500, 1000)}, timesPlot(plotOf(0, 1000), 10), timesPlot(plotOf(0, 1), 9),
		// Equal plots, and other choices that yield the same.
		{plotOf(5, 10), plotOf(5, 10)}, {plotOf(5, 10), plotOf(5, 10), plotOf(5, 10)}, {plotOf(5, 10), plotOf(2, 4), plotOf(3, 6)}, {plotOf(3, 6), plotOf(2, 4), plotOf(5, 10)}, {plotOf(6, 10), plotOf(5, 10)}, {plotOf(5, 10), plotOf(6, 10)}, {plotOf(2, 5), plotOf(8, 5)}, {plotOf(9, 7), plotOf(2, 3), plotOf(2, 4), plotOf(4, 7)},
		// The best yield for a unit of water is not the best choice.
		{plotOf(10, 60), plotOf(20, 100), plotOf(30, 120)}, {plotOf(1, 3), plotOf(10, 20)}, {plotOf(6, 30), plotOf(5, 20), plotOf(5, 20)}, {plotOf(5, 20), plotOf(5, 20), plotOf(6, 30)}, {plotOf(400, 999), plotOf(250, 500), plotOf(250, 500)},
		timesPlot(plotOf(500, 1000), 10), timesPlot(plotOf(50, 1000), 10), timesPlot(plotOf(51, 1000), 10), timesPlot(plotOf(1, 1), 10), timesPlot(plotOf(100, 7), 10), append(timesPlot(plotOf(55, 10), 9), plotOf(500, 91)), append([]impl.Plot{plotOf(500, 91)}, timesPlot(plotOf(55, 10), 9)...), append(timesPlot(plotOf(55, 10), 9), plotOf(500, 90)),
		{plotOf(1, 1), plotOf(2, 2), plotOf(4, 4), plotOf(8, 8), plotOf(16, 16), plotOf(32, 32), plotOf(64, 64), plotOf(128, 128), plotOf(256, 256), plotOf(500, 500)},
	}
}

// madePlots returns plots without a pattern: with small needs, with any, with some that need nothing, or with yields that are near to their needs.
func madePlots(d *dice, count int) []impl.Plot {
	list := []impl.Plot{}
	kind := d.roll(4)
	for range count {
		switch kind {
		case 0:
			list = append(list, plotOf(d.roll(9), 1+d.roll(9)))
		case 1:
			list = append(list, plotOf(d.roll(501), 1+d.roll(1000)))
		case 2:
			list = append(list, plotOf(d.roll(2)*d.roll(60), 1+d.roll(30)))
		default:
			need := 20 + d.roll(100)
			list = append(list, plotOf(need, need+d.roll(3)))
		}
	}
	return list
}

// somePlots returns valid plots of many kinds.
func somePlots() [][]impl.Plot {
	lists := fewPlots()
	d := &dice{seed: 139}
	for count := 1; count <= 10; count++ {
		for range 10 {
			lists = append(lists, madePlots(d, count))
		}
	}
	return lists
}

// badPlots returns plots that are not valid.
func badPlots() [][]impl.Plot {
	lists := [][]impl.Plot{timesPlot(plotOf(0, 1), 11), timesPlot(plotOf(500, 1000), 11), timesPlot(plotOf(5, 5), 12), timesPlot(plotOf(5, 5), 1000)}
	for _, bad := range []impl.Plot{
		{}, plotOf(1, 0), plotOf(0, -1), plotOf(5, 1001), plotOf(-1, 5), plotOf(501, 5), plotOf(-1, 0), plotOf(501, 1001), plotOf(-500, 1000),
		plotOf(greatestInt, 5), plotOf(leastInt, 5), plotOf(5, greatestInt), plotOf(5, leastInt), plotOf(greatestInt, greatestInt), plotOf(leastInt, leastInt), plotOf(leastInt, greatestInt),
	} {
		lists = append(lists, []impl.Plot{bad}, []impl.Plot{bad, plotOf(3, 4)}, []impl.Plot{plotOf(3, 4), bad}, append(timesPlot(plotOf(3, 4), 9), bad))
	}
	return lists
}

// choice is the indices of some plots, and what these need and yield.
type choice struct {
	plots []int
	need  int
	yield int
}

// choicesOf returns all choices of plots: of two of them, the one comes first that is without the last plot in which they differ.
func choicesOf(list []impl.Plot) []choice {
	choices := []choice{{}}
	for i, plot := range list {
		with := []choice{}
		for _, c := range choices {
			with = append(with, choice{append(copyOf(c.plots), i), c.need + plot.Need, c.yield + plot.Yield})
		}
		choices = append(choices, with...)
	}
	return choices
}

// bestChoice returns the first one of the choices that need no more than there is with the greatest yield.
func bestChoice(choices []choice, water int) choice {
	best := choice{}
	for _, c := range choices {
		if c.need <= water && c.yield > best.yield {
			best = c
		}
	}
	return best
}

// askedWaters returns numbers of units for plots, those near to what the first ones need among them.
func askedWaters(list []impl.Plot) []int {
	near := someCounts()
	need := 0
	for _, plot := range list {
		need += plot.Need
		near = append(near, need-1, need, need+1, plot.Need-1, plot.Need, plot.Need+1)
	}
	waters := []int{}
	for _, water := range near {
		if water >= 0 && water <= 500 && !isOneOf(water, waters) {
			waters = append(waters, water)
		}
	}
	return waters
}

// checkNeed checks what plots need and yield.
func checkNeed(t *testing.T, list []impl.Plot, plots []int, need int, yield int) {
	t.Helper()
	if n, y := impl.PlotsNeed(list, plots); n != need || y != yield {
		t.Errorf("PlotsNeed(%v, %v) = %d, %d, not %d, %d", list, plots, n, y, need, yield)
	}
}

// checkMeasures checks numbers of nodes of a channel against those that are expected.
func checkMeasures(t *testing.T, name string, list []impl.Node, by []int, got []int, want []int) {
	t.Helper()
	if !sameList(got, want) {
		t.Errorf("%s of %v in %v = %v, not %v", name, by, list, got, want)
	}
}
