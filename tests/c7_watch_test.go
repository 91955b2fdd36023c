package tests

import (
	"testing"

	"loop.example/watershares/impl"
)

func TestExpectedAt(t *testing.T) {
	strange := 0
	for _, m := range someMeasures() {
		want := expectedBy(m)
		checkMeasures(t, "ExpectedAt", m.list, m.measured, impl.ExpectedAt(m.list, m.measured), want)
		checkMeasures(t, "MissingAt", m.list, m.measured, impl.MissingAt(m.list, m.measured), minus(want, m.measured))
		if len(moreThan(minus(m.measured, want), 0)) > 0 {
			strange++
		}
	}
	if strange < 500 {
		t.Errorf("only %d times more is measured than should come", strange)
	}
}

func TestMeasuredWith(t *testing.T) {
	several := 0
	for _, c := range someThefts() {
		measured := impl.MeasuredWith(c.list, c.flow, c.taken)
		checkMeasures(t, "MeasuredWith", c.list, c.taken, measured, measuredBy(c))
		if len(moreThan(minus(impl.FlowsOf(c.list, c.flow), measured), 0)) > 1 && len(moreThan(c.taken, 0)) > 1 {
			several++
		}
	}
	if several < 1500 {
		t.Errorf("only %d times water is taken at several nodes", several)
	}
}

func TestMeasuredWithEachFlow(t *testing.T) {
	list := valley()
	for _, taken := range [][]int{{0, 5, 0, 3, 0, 2, 500, 1}, {9, 20, 4, 0, 1, 0, 1, 9}, {500, 0, 30, 7, 0, 30, 0, 0}} {
		for flow := range 501 {
			checkMeasures(t, "MeasuredWith", list, taken, impl.MeasuredWith(list, flow, taken), measuredBy(theft{list, flow, taken}))
		}
	}
}

// theftCase is what is taken of some units, with what is measured then, what should come, and what is missing.
type theftCase struct {
	list     []impl.Node
	flow     int
	taken    []int
	measured []int
	expected []int
	missing  []int
}

// checkTheft checks the measures of a case.
func checkTheft(t *testing.T, c theftCase) {
	t.Helper()
	checkMeasures(t, "MeasuredWith", c.list, c.taken, impl.MeasuredWith(c.list, c.flow, c.taken), c.measured)
	checkMeasures(t, "ExpectedAt", c.list, c.measured, impl.ExpectedAt(c.list, c.measured), c.expected)
	checkMeasures(t, "MissingAt", c.list, c.measured, impl.MissingAt(c.list, c.measured), c.missing)
}

func TestTheftsByHand(t *testing.T) {
	loss := []impl.Node{spring(2, 500), place(0, 1, 3, 500), place(1, 1, 4, 500)}
	narrow := []impl.Node{spring(0, 30), place(0, 1, 0, 20), gate(1, 1)}
	shut := []impl.Node{spring(0, 500), gate(0, 0), gate(0, 0)}
	cases := []theftCase{
		{[]impl.Node{spring(0, 500)}, 7, []int{0}, []int{7}, []int{7}, []int{0}}, {[]impl.Node{spring(0, 500)}, 7, []int{3}, []int{7}, []int{7}, []int{0}}, {[]impl.Node{spring(0, 500)}, 500, []int{500}, []int{500}, []int{500}, []int{0}}, {[]impl.Node{spring(0, 500)}, 0, []int{500}, []int{0}, []int{0}, []int{0}},
		// What is taken from one kid does not come to the other one.
		{starOf(1, 1), 20, []int{0, 4, 0}, []int{20, 6, 10}, []int{20, 10, 10}, []int{0, 4, 0}}, {starOf(1, 1), 20, []int{0, 4, 3}, []int{20, 6, 7}, []int{20, 10, 10}, []int{0, 4, 3}}, {starOf(1, 1), 20, []int{9, 10, 11}, []int{20, 0, 0}, []int{20, 10, 10}, []int{0, 10, 10}}, {starOf(3, 1), 20, []int{0, 15, 4}, []int{20, 0, 1}, []int{20, 15, 5}, []int{0, 15, 4}},
		// Takers one below the other: the second one takes of what the first one left.
		{lineOf(4, 0, 500), 20, []int{0, 5, 6, 7}, []int{20, 15, 9, 2}, []int{20, 20, 15, 9}, []int{0, 5, 6, 7}}, {lineOf(4, 0, 500), 20, []int{0, 5, 16, 7}, []int{20, 15, 0, 0}, []int{20, 20, 15, 0}, []int{0, 5, 15, 0}}, {lineOf(4, 0, 500), 500, []int{500, 500, 500, 500}, []int{500, 0, 0, 0}, []int{500, 500, 0, 0}, []int{0, 500, 0, 0}},
		// What is taken is not lost below: the loss takes of the rest, and at a narrow node less spills.
		{loss, 20, []int{0, 5, 1}, []int{20, 13, 9}, []int{20, 18, 10}, []int{0, 5, 1}}, {loss, 20, []int{0, 15, 1}, []int{20, 3, 0}, []int{20, 18, 0}, []int{0, 15, 0}}, {loss, 20, []int{0, 16, 0}, []int{20, 2, 0}, []int{20, 18, 0}, []int{0, 16, 0}}, {loss, 2, []int{0, 1, 1}, []int{2, 0, 0}, []int{2, 0, 0}, []int{0, 0, 0}},
		{narrow, 50, []int{0, 10, 0}, []int{50, 20, 20}, []int{50, 30, 20}, []int{0, 10, 0}}, {narrow, 50, []int{0, 9, 2}, []int{50, 21, 18}, []int{50, 30, 20}, []int{0, 9, 2}}, {narrow, 50, []int{0, 11, 2}, []int{50, 19, 17}, []int{50, 30, 19}, []int{0, 11, 2}},
		// Where all gates are shut, there is nothing to take.
		{shut, 50, []int{0, 5, 5}, []int{50, 0, 0}, []int{50, 0, 0}, []int{0, 0, 0}},
		{valley(), 100, []int{0, 13, 0, 3, 5, 4, 0, 0}, []int{100, 60, 24, 30, 0, 20, 17, 0}, []int{100, 73, 24, 33, 0, 24, 17, 0}, []int{0, 13, 0, 3, 0, 4, 0, 0}},
	}
	for _, c := range cases {
		checkTheft(t, c)
	}
}

func TestMeasuresOfOtherWater(t *testing.T) {
	// More is measured than comes, so that less than nothing is missing.
	if m := []int{10, 9, 5}; !isList(impl.ExpectedAt(starOf(1, 1), m), 10, 5, 5) || !isList(impl.MissingAt(starOf(1, 1), m), 0, -4, 0) || len(impl.SuspectsOf(starOf(1, 1), m, 0)) != 0 {
		t.Errorf("MissingAt(%v) = %v", m, impl.MissingAt(starOf(1, 1), m))
	}
	if m := []int{0, 500, 0}; !isList(impl.ExpectedAt(lineOf(3, 0, 500), m), 0, 0, 500) || !isList(impl.MissingAt(lineOf(3, 0, 500), m), 0, -500, 500) || !isList(impl.SuspectsOf(lineOf(3, 0, 500), m, 499), 2) || len(impl.SuspectsOf(lineOf(3, 0, 500), m, 500)) != 0 {
		t.Errorf("MissingAt(%v) = %v", m, impl.MissingAt(lineOf(3, 0, 500), m))
	}
	// What is measured at a kid is not looked at for the other kids of its parent.
	if m := []int{20, 0, 20}; !isList(impl.MissingAt(starOf(1, 1), m), 0, 10, -10) || !isList(impl.SuspectsOf(starOf(1, 1), m, 9), 1) {
		t.Errorf("MissingAt(%v) = %v", m, impl.MissingAt(starOf(1, 1), m))
	}
}

func TestSuspectsOf(t *testing.T) {
	some := 0
	for _, m := range someMeasures() {
		missing := minus(expectedBy(m), m.measured)
		for _, slack := range []int{0, 1, 3, 10, 100, 250, 499, 500} {
			suspects := moreThan(missing, slack)
			checkMeasures(t, "SuspectsOf", m.list, m.measured, impl.SuspectsOf(m.list, m.measured, slack), suspects)
			if len(suspects) > 1 && len(suspects) < len(m.list) {
				some++
			}
		}
	}
	if some < 1000 {
		t.Errorf("only %d times there are several suspects", some)
	}
	list := lineOf(4, 0, 500)
	if m := []int{20, 15, 9, 2}; !isList(impl.SuspectsOf(list, m, 0), 1, 2, 3) || !isList(impl.SuspectsOf(list, m, 4), 1, 2, 3) || !isList(impl.SuspectsOf(list, m, 5), 2, 3) || !isList(impl.SuspectsOf(list, m, 6), 3) || len(impl.SuspectsOf(list, m, 7)) != 0 || len(impl.SuspectsOf(list, m, 500)) != 0 {
		t.Error("SuspectsOf by hand")
	}
}

// checkNoMeasures checks that nothing is told of measures of a channel, and that they cannot be what is taken.
func checkNoMeasures(t *testing.T, list []impl.Node, units []int) {
	t.Helper()
	if len(impl.ExpectedAt(list, units)) != 0 || len(impl.MissingAt(list, units)) != 0 || len(impl.SuspectsOf(list, units, 0)) != 0 || len(impl.SuspectsOf(list, units, 500)) != 0 {
		t.Errorf("%v are measures of %v", units, list)
	}
	for _, flow := range []int{0, 1, 500, -1, 501} {
		if len(impl.MeasuredWith(list, flow, units)) != 0 {
			t.Errorf("%v of %d can be taken in %v", units, flow, list)
		}
	}
}

func TestOtherMeasures(t *testing.T) {
	for _, list := range someChannels() {
		for _, units := range badNodeUnits(len(list)) {
			checkNoMeasures(t, list, units)
		}
		for _, bad := range badCounts() {
			good := steady(1, len(list))
			if len(impl.MeasuredWith(list, bad, good)) != 0 {
				t.Errorf("MeasuredWith(%v, %d) = %v", list, bad, impl.MeasuredWith(list, bad, good))
			}
			if suspects := impl.SuspectsOf(list, takenAt(len(list), 0, 500), bad); len(suspects) != 0 {
				t.Errorf("SuspectsOf(%v) with slack %d = %v", list, bad, suspects)
			}
		}
	}
	for _, list := range badChannels() {
		for _, units := range []int{0, 1, 500} {
			checkNoMeasures(t, list, steady(units, len(list)))
		}
		checkNoMeasures(t, list, nil)
		checkNoMeasures(t, list, []int{5})
	}
}

func TestLimitsOfMeasures(t *testing.T) {
	list := lineOf(3, 0, 500)
	for units := -2; units <= 502; units++ {
		fine := units >= 0 && units <= 500
		for at := range list {
			with := takenAt(3, at, units)
			if fine != (len(impl.ExpectedAt(list, with)) == 3) || fine != (len(impl.MissingAt(list, with)) == 3) || fine != (len(impl.MeasuredWith(list, 500, with)) == 3) {
				t.Errorf("%v is not %v", with, fine)
			}
		}
		if fine != (len(impl.MeasuredWith(list, units, []int{0, 0, 0})) == 3) {
			t.Errorf("a flow of %d is not %v", units, fine)
		}
		// At the last node 500 units are missing.
		if suspects := impl.SuspectsOf(list, []int{0, 500, 0}, units); (units >= 0 && units < 500) != isList(suspects, 2) || len(suspects) > 1 {
			t.Errorf("SuspectsOf with slack %d = %v", units, suspects)
		}
	}
}

func TestValidRules(t *testing.T) {
	for _, list := range someRules() {
		if !impl.ValidRules(list) {
			t.Errorf("ValidRules(%v) = false", list)
		}
	}
	for _, list := range badRules() {
		if impl.ValidRules(list) {
			t.Errorf("ValidRules(%v) = true", list)
		}
	}
	for count := range 14 {
		if impl.ValidRules(timesRule(always(0), count)) != (count <= 10) {
			t.Errorf("ValidRules of %d customs is not %v", count, count <= 10)
		}
	}
}

// checkRule checks whether a custom is valid, alone and as the last one of as many as there may be.
func checkRule(t *testing.T, rule impl.Rule, fine bool) {
	t.Helper()
	if impl.ValidRules([]impl.Rule{rule}) != fine || impl.ValidRules(append(timesRule(always(0), 9), rule)) != fine {
		t.Errorf("ValidRules of %v is not %v", rule, fine)
	}
}

func TestLimitsOfRules(t *testing.T) {
	for from := -2; from <= 26; from++ {
		for to := -2; to <= 26; to++ {
			checkRule(t, custom(from, to, 0, 500, 1), from >= 0 && from <= to && to <= 23)
		}
	}
	near := []int{-2, -1, 0, 1, 2, 249, 250, 251, 498, 499, 500, 501, 502}
	for _, low := range near {
		for _, high := range near {
			checkRule(t, custom(0, 23, low, high, 1), low >= 0 && low <= high && high <= 500)
		}
	}
	for verdict := -3; verdict <= 103; verdict++ {
		checkRule(t, always(verdict), verdict >= 0 && verdict <= 99)
		fine := verdict >= 0 && verdict <= 99
		if got := impl.VerdictOf([]impl.Rule{always(verdict)}, 5, 5); fine && got != verdict || !fine && got != -1 {
			t.Errorf("VerdictOf is %d, not %d", got, verdict)
		}
	}
}

func TestFirstRule(t *testing.T) {
	found := 0
	missed := 0
	for _, list := range someRules() {
		for hour, first := range paintOf(list) {
			for units, want := range first {
				if at := impl.FirstRule(list, hour, units); at != want {
					t.Fatalf("FirstRule(%v, %d, %d) = %d, not %d", list, hour, units, at, want)
				}
				if want > 0 {
					found++
				} else if want < 0 {
					missed++
				}
			}
		}
	}
	if found < 100000 || missed < 100000 {
		t.Errorf("only %d times the first custom is a later one, and %d times there is none", found, missed)
	}
}

func TestVerdictOf(t *testing.T) {
	for _, list := range someRules() {
		for hour, first := range paintOf(list) {
			for units, at := range first {
				want := -1
				if at >= 0 {
					want = list[at].Verdict
				}
				if verdict := impl.VerdictOf(list, hour, units); verdict != want {
					t.Fatalf("VerdictOf(%v, %d, %d) = %d, not %d", list, hour, units, verdict, want)
				}
			}
		}
	}
}

// verdictCase is a case with the custom for it and the verdict.
type verdictCase struct {
	hour    int
	units   int
	first   int
	verdict int
}

func TestVerdictsByHand(t *testing.T) {
	list := []impl.Rule{custom(6, 20, 10, 50, 7), custom(20, 22, 50, 60, 8), custom(0, 23, 0, 499, 0), custom(6, 6, 500, 500, 99)}
	cases := []verdictCase{
		{6, 10, 0, 7}, {6, 50, 0, 7}, {20, 10, 0, 7}, {20, 50, 0, 7}, {5, 10, 2, 0}, {21, 10, 2, 0}, {6, 9, 2, 0}, {6, 51, 2, 0}, {20, 51, 1, 8}, {21, 50, 1, 8}, {22, 60, 1, 8}, {23, 60, 2, 0}, {22, 61, 2, 0},
		{0, 0, 2, 0}, {23, 499, 2, 0}, {6, 500, 3, 99}, {5, 500, -1, -1}, {7, 500, -1, -1}, {0, 500, -1, -1}, {23, 500, -1, -1}, {24, 5, -1, -1}, {-1, 5, -1, -1}, {5, -1, -1, -1}, {6, 501, -1, -1},
	}
	for _, c := range cases {
		if first := impl.FirstRule(list, c.hour, c.units); first != c.first || impl.VerdictOf(list, c.hour, c.units) != c.verdict {
			t.Errorf("FirstRule(%d, %d) = %d, not %d, and VerdictOf %d, not %d", c.hour, c.units, first, c.first, impl.VerdictOf(list, c.hour, c.units), c.verdict)
		}
	}
}

// checkNoVerdict checks that no custom is for a case.
func checkNoVerdict(t *testing.T, list []impl.Rule, a affair) {
	t.Helper()
	if first, verdict := impl.FirstRule(list, a.hour, a.units), impl.VerdictOf(list, a.hour, a.units); first != -1 || verdict != -1 {
		t.Errorf("FirstRule(%v, %v) = %d, and VerdictOf %d", list, a, first, verdict)
	}
}

func TestOtherAffairs(t *testing.T) {
	for _, list := range append(someRules(), []impl.Rule{}) {
		for _, a := range badAffairs() {
			checkNoVerdict(t, list, a)
		}
	}
	for _, a := range askedAffairs(stripes(10)) {
		checkNoVerdict(t, nil, a)
		checkNoVerdict(t, []impl.Rule{}, a)
	}
	for _, list := range badRules() {
		for _, a := range append(badAffairs(), affair{0, 0}, affair{5, 5}, affair{3, 3}, affair{23, 500}, affair{12, 250}) {
			checkNoVerdict(t, list, a)
		}
	}
}

func TestDeadRules(t *testing.T) {
	together := 0
	for _, list := range someRules() {
		want := deadIn(list)
		if dead := impl.DeadRules(list); !sameList(dead, want) {
			t.Errorf("DeadRules(%v) = %v, not %v", list, dead, want)
		}
		for _, at := range want {
			if isCoveredTogether(list, at) {
				together++
			}
		}
	}
	if together < 20 {
		t.Errorf("only %d customs are covered by several others together", together)
	}
}

// isCoveredTogether reports whether no custom before one alone has all of its cases.
func isCoveredTogether(list []impl.Rule, at int) bool {
	own := list[at]
	for _, rule := range list[:at] {
		if rule.From <= own.From && rule.To >= own.To && rule.Low <= own.Low && rule.High >= own.High {
			return false
		}
	}
	return true
}

// deadCase is customs, and those of them that are dead.
type deadCase struct {
	list []impl.Rule
	dead []int
}

func TestDeadRulesByHand(t *testing.T) {
	day := quarters(0, 23, 0, 500)
	cases := []deadCase{
		{nil, nil}, {[]impl.Rule{}, nil}, {[]impl.Rule{always(0)}, nil}, {[]impl.Rule{custom(0, 0, 0, 0, 0)}, nil}, {[]impl.Rule{always(1), always(1)}, []int{1}}, {[]impl.Rule{always(1), custom(3, 3, 3, 3, 2)}, []int{1}}, {[]impl.Rule{custom(3, 3, 3, 3, 2), always(1)}, nil},
		{timesRule(always(0), 10), []int{1, 2, 3, 4, 5, 6, 7, 8, 9}}, {timesRule(custom(23, 23, 500, 500, 0), 3), []int{1, 2}}, {stripes(10), nil}, {append(stripes(8), always(1), always(2)), []int{9}},
		{day, nil}, {append(quarters(0, 23, 0, 500), always(5), custom(3, 3, 3, 3, 6)), []int{4, 5}}, {append(copyRules(day[:3]), custom(12, 23, 251, 499, 4), always(5), always(6)), []int{5}},
		// A custom is not dead for the sake of one case, wherever it is.
		{[]impl.Rule{custom(0, 22, 0, 500, 1), custom(23, 23, 0, 499, 2), always(3), custom(23, 23, 500, 500, 4)}, []int{3}}, {[]impl.Rule{custom(1, 23, 0, 500, 1), custom(0, 0, 1, 500, 2), always(3), custom(0, 0, 0, 0, 4)}, []int{3}}, {[]impl.Rule{custom(0, 9, 0, 500, 1), custom(11, 23, 0, 500, 1), custom(10, 10, 0, 99, 1), custom(10, 10, 101, 500, 1), always(1), custom(10, 10, 100, 100, 1)}, []int{5}},
		// A custom that is dead covers nothing that others do not cover.
		{[]impl.Rule{custom(3, 8, 3, 8, 1), custom(3, 8, 3, 8, 1), custom(3, 8, 3, 9, 1), custom(2, 8, 3, 8, 1), custom(2, 8, 3, 9, 1), custom(4, 7, 4, 9, 1)}, []int{1, 5}},
	}
	for _, c := range cases {
		if dead := impl.DeadRules(c.list); !sameList(dead, c.dead) {
			t.Errorf("DeadRules(%v) = %v, not %v", c.list, dead, c.dead)
		}
	}
	for _, list := range badRules() {
		if dead := impl.DeadRules(list); len(dead) != 0 {
			t.Errorf("DeadRules(%v) = %v", list, dead)
		}
	}
}

func TestDutyOrder(t *testing.T) {
	for _, weights := range someWeights() {
		all := dutiesOf(500, weights)
		for _, days := range someCounts() {
			if order := impl.DutyOrder(days, weights); !sameList(order, all[:days]) {
				t.Errorf("DutyOrder(%d, %v) = %v, not %v", days, weights, order, all[:days])
			}
		}
	}
}

// dutyCase is weights, and whose turn it is on each day by them.
type dutyCase struct {
	weights []int
	order   []int
}

func TestDutiesByHand(t *testing.T) {
	cases := []dutyCase{
		{[]int{7}, []int{0, 0, 0}}, {[]int{0, 1}, []int{1, 1, 1}}, {[]int{1000, 0}, []int{0, 0}}, {[]int{1, 1}, []int{0, 1, 0, 1, 0}}, {[]int{9, 9, 9}, []int{0, 1, 2, 0, 1, 2, 0}}, {[]int{0, 5, 0, 5, 0}, []int{1, 3, 1, 3}}, {twelve(1000), append(indices(12), indices(12)...)},
		{[]int{2, 1}, []int{0, 1, 0, 0, 1, 0}}, {[]int{1, 2}, []int{1, 0, 1, 1, 0, 1}}, {[]int{3, 1}, []int{0, 0, 1, 0, 0, 0, 1, 0}}, {[]int{1, 3}, []int{1, 0, 1, 1, 1, 0, 1, 1}}, {[]int{4, 1}, []int{0, 0, 1, 0, 0, 0, 0, 1}}, {[]int{6, 3, 1}, []int{0, 1, 0, 0, 1, 2, 0, 0, 1, 0}}, {[]int{5, 5}, nil}, {[]int{5}, []int{}},
	}
	for _, c := range cases {
		if order := impl.DutyOrder(len(c.order), c.weights); !sameList(order, c.order) {
			t.Errorf("DutyOrder of %v = %v, not %v", c.weights, order, c.order)
		}
	}
}

func TestOtherDuties(t *testing.T) {
	for _, weights := range badWeights() {
		for _, days := range []int{0, 1, 10, 500, -1, 501} {
			if order := impl.DutyOrder(days, weights); len(order) != 0 {
				t.Errorf("DutyOrder(%d, %v) = %v", days, weights, order)
			}
		}
	}
	for _, weights := range [][]int{{1}, {6, 3, 1}, twelve(1000)} {
		for _, days := range append(badCounts(), 502, 5000) {
			if order := impl.DutyOrder(days, weights); len(order) != 0 {
				t.Errorf("DutyOrder(%d, %v) = %v", days, weights, order)
			}
		}
		if order := impl.DutyOrder(500, weights); len(order) != 500 {
			t.Errorf("DutyOrder(500, %v) has %d days", weights, len(order))
		}
	}
}

func TestValidPlots(t *testing.T) {
	for _, list := range somePlots() {
		if !impl.ValidPlots(list) {
			t.Errorf("ValidPlots(%v) = false", list)
		}
	}
	for _, list := range badPlots() {
		if impl.ValidPlots(list) {
			t.Errorf("ValidPlots(%v) = true", list)
		}
	}
	for count := range 14 {
		for _, plot := range []impl.Plot{plotOf(0, 1), plotOf(500, 1000)} {
			if impl.ValidPlots(timesPlot(plot, count)) != (count <= 10) {
				t.Errorf("ValidPlots of %d plots is not %v", count, count <= 10)
			}
		}
	}
}

func TestLimitsOfPlots(t *testing.T) {
	for n := -3; n <= 1003; n++ {
		needs := n >= 0 && n <= 500
		yields := n >= 1 && n <= 1000
		if impl.ValidPlots([]impl.Plot{plotOf(n, 5)}) != needs || impl.ValidPlots(append(timesPlot(plotOf(1, 1), 9), plotOf(n, 5))) != needs {
			t.Errorf("a need of %d is not %v", n, needs)
		}
		if impl.ValidPlots([]impl.Plot{plotOf(5, n)}) != yields || impl.ValidPlots(append(timesPlot(plotOf(1, 1), 9), plotOf(5, n))) != yields {
			t.Errorf("a yield of %d is not %v", n, yields)
		}
		if yield := impl.BestYield([]impl.Plot{plotOf(0, 7)}, n); needs && yield != 7 || !needs && yield != -1 {
			t.Errorf("BestYield with %d = %d", n, yield)
		}
		if plots := impl.BestPlots([]impl.Plot{plotOf(0, 7)}, n); needs != isList(plots, 0) || !needs && len(plots) != 0 {
			t.Errorf("BestPlots with %d = %v", n, plots)
		}
		if yield := impl.BestYield([]impl.Plot{plotOf(3, n)}, 3); yields && yield != n || !yields && yield != -1 {
			t.Errorf("BestYield of %d = %d", n, yield)
		}
	}
}

func TestBestPlots(t *testing.T) {
	left := 0
	equal := 0
	for _, list := range somePlots() {
		choices := choicesOf(list)
		for _, water := range askedWaters(list) {
			best := bestChoice(choices, water)
			if yield := impl.BestYield(list, water); yield != best.yield {
				t.Errorf("BestYield(%v, %d) = %d, not %d", list, water, yield, best.yield)
			}
			if plots := impl.BestPlots(list, water); !sameList(plots, best.plots) {
				t.Errorf("BestPlots(%v, %d) = %v, not %v", list, water, plots, best.plots)
			}
			if len(best.plots) > 0 && len(best.plots) < len(list) {
				left++
			}
			for _, c := range choices {
				if c.need <= water && c.yield == best.yield && !sameList(c.plots, best.plots) {
					equal++
					break
				}
			}
		}
	}
	if left < 1000 || equal < 200 {
		t.Errorf("only %d times some plots lie fallow, and %d times two choices are best", left, equal)
	}
}

func TestBestPlotsWithAllWater(t *testing.T) {
	for _, list := range fewPlots() {
		choices := choicesOf(list)
		for water := range 501 {
			best := bestChoice(choices, water)
			if yield, plots := impl.BestYield(list, water), impl.BestPlots(list, water); yield != best.yield || !sameList(plots, best.plots) {
				t.Fatalf("BestPlots(%v, %d) = %v yields %d, and not %v and %d", list, water, plots, yield, best.plots, best.yield)
			}
		}
	}
}

// plotCase is plots and water, with the plots that are chosen and what these yield.
type plotCase struct {
	list  []impl.Plot
	water int
	plots []int
	yield int
}

func TestPlotsByHand(t *testing.T) {
	same := timesPlot(plotOf(5, 10), 3)
	free := []impl.Plot{plotOf(3, 4), plotOf(0, 5), plotOf(500, 1000), plotOf(0, 1)}
	cases := []plotCase{
		{nil, 0, nil, 0}, {nil, 500, nil, 0}, {[]impl.Plot{}, 7, nil, 0}, {[]impl.Plot{plotOf(7, 30)}, 6, nil, 0}, {[]impl.Plot{plotOf(7, 30)}, 7, []int{0}, 30}, {[]impl.Plot{plotOf(7, 30)}, 8, []int{0}, 30},
		// Of equal plots the first ones are taken.
		{same, 4, nil, 0}, {same, 5, []int{0}, 10}, {same, 9, []int{0}, 10}, {same, 10, []int{0, 1}, 20}, {same, 14, []int{0, 1}, 20}, {same, 15, []int{0, 1, 2}, 30},
		// The last plot is not taken if those before it yield as much, even if they need more.
		{[]impl.Plot{plotOf(6, 10), plotOf(5, 10)}, 6, []int{0}, 10}, {[]impl.Plot{plotOf(6, 10), plotOf(5, 10)}, 5, []int{1}, 10}, {[]impl.Plot{plotOf(5, 10), plotOf(2, 4), plotOf(3, 6)}, 5, []int{0}, 10}, {[]impl.Plot{plotOf(3, 6), plotOf(2, 4), plotOf(5, 10)}, 5, []int{0, 1}, 10}, {[]impl.Plot{plotOf(5, 11), plotOf(2, 4), plotOf(3, 7)}, 5, []int{0}, 11},
		{free, 0, []int{1, 3}, 6}, {free, 2, []int{1, 3}, 6}, {free, 3, []int{0, 1, 3}, 10}, {free, 499, []int{0, 1, 3}, 10}, {free, 500, []int{1, 2, 3}, 1006}, {timesPlot(plotOf(0, 1000), 10), 0, indices(10), 10000},
		{[]impl.Plot{plotOf(10, 60), plotOf(20, 100), plotOf(30, 120)}, 50, []int{1, 2}, 220}, {[]impl.Plot{plotOf(10, 60), plotOf(20, 100), plotOf(30, 120)}, 59, []int{1, 2}, 220}, {[]impl.Plot{plotOf(10, 60), plotOf(20, 100), plotOf(30, 120)}, 60, []int{0, 1, 2}, 280}, {[]impl.Plot{plotOf(10, 60), plotOf(20, 100), plotOf(30, 120)}, 30, []int{0, 1}, 160},
		{timesPlot(plotOf(50, 1000), 10), 500, indices(10), 10000}, {timesPlot(plotOf(51, 1000), 10), 500, indices(9), 9000}, {append(timesPlot(plotOf(55, 10), 9), plotOf(500, 91)), 500, []int{9}, 91}, {append(timesPlot(plotOf(55, 10), 9), plotOf(500, 90)), 500, indices(9), 90}, {append(timesPlot(plotOf(55, 10), 9), plotOf(500, 91)), 499, indices(9), 90},
	}
	for _, c := range cases {
		if yield, plots := impl.BestYield(c.list, c.water), impl.BestPlots(c.list, c.water); yield != c.yield || !sameList(plots, c.plots) {
			t.Errorf("BestPlots(%v, %d) = %v yields %d, and not %v and %d", c.list, c.water, plots, yield, c.plots, c.yield)
		}
	}
}

// checkNoBest checks that there are no best plots.
func checkNoBest(t *testing.T, list []impl.Plot, water int) {
	t.Helper()
	if yield, plots := impl.BestYield(list, water), impl.BestPlots(list, water); yield != -1 || len(plots) != 0 {
		t.Errorf("BestPlots(%v, %d) = %v yields %d", list, water, plots, yield)
	}
}

func TestOtherPlots(t *testing.T) {
	for _, list := range badPlots() {
		for _, water := range append(badCounts(), 0, 1, 10, 500) {
			checkNoBest(t, list, water)
		}
		for _, plots := range [][]int{nil, {}, {0}, {-1}, {len(list)}, {0, 1}, indices(len(list))} {
			checkNeed(t, list, plots, -1, -1)
		}
	}
	for _, list := range fewPlots() {
		for _, water := range badCounts() {
			checkNoBest(t, list, water)
		}
	}
}

func TestPlotsNeed(t *testing.T) {
	d := &dice{seed: 149}
	for _, list := range somePlots() {
		for _, c := range choicesOf(list) {
			checkNeed(t, list, c.plots, c.need, c.yield)
			checkNeed(t, list, reversed(c.plots), c.need, c.yield)
		}
		order := mixed(d, len(list))
		need := 0
		yield := 0
		for i, at := range order {
			checkNeed(t, list, order[:i], need, yield)
			need += list[at].Need
			yield += list[at].Yield
		}
		checkNeed(t, list, order, need, yield)
	}
	list := []impl.Plot{plotOf(5, 10), plotOf(0, 15), plotOf(2, 3), plotOf(500, 1000)}
	checkNeed(t, list, nil, 0, 0)
	checkNeed(t, list, []int{1}, 0, 15)
	checkNeed(t, list, []int{3, 0}, 505, 1010)
	checkNeed(t, list, []int{2, 3, 1, 0}, 507, 1028)
	checkNeed(t, nil, nil, 0, 0)
	checkNeed(t, []impl.Plot{}, []int{}, 0, 0)
	checkNeed(t, timesPlot(plotOf(500, 1000), 10), indices(10), 5000, 10000)
}

func TestNeedsOfOtherIndices(t *testing.T) {
	d := &dice{seed: 151}
	for _, list := range somePlots() {
		count := len(list)
		for _, bad := range []int{-1, -2, count, count + 1, 10, 11, 500, greatestInt, leastInt} {
			if bad >= 0 && bad < count {
				continue
			}
			checkNeed(t, list, []int{bad}, -1, -1)
			for at := range count + 1 {
				order := mixed(d, count)
				checkNeed(t, list, joined(order[:at], []int{bad}, order[at:]), -1, -1)
			}
		}
		for at := range count {
			// One index twice, next to itself and apart.
			checkNeed(t, list, []int{at, at}, -1, -1)
			checkNeed(t, list, append(mixed(d, count), at), -1, -1)
			checkNeed(t, list, append([]int{at}, mixed(d, count)...), -1, -1)
		}
		checkNeed(t, list, steady(0, 1000), -1, -1)
	}
}

func TestAnswersOfMeasuresAreNewMemory(t *testing.T) {
	for _, list := range fewChannels() {
		nodes := len(list)
		store := append(copyNodes(list), gate(77, 77), gate(78, 78))
		part := store[:nodes]
		units := append(steady(3, nodes), 87, 88)
		units[0] = 400
		before := copyOf(units)
		answers := [][]int{impl.ExpectedAt(part, units[:nodes]), impl.MissingAt(part, units[:nodes]), impl.SuspectsOf(part, units[:nodes], 0), impl.MeasuredWith(part, 400, units[:nodes])}
		kept := joined(answers...)
		spoil(impl.ExpectedAt(part, units[:nodes]))
		spoil(impl.MissingAt(part, units[:nodes]))
		spoil(impl.SuspectsOf(part, units[:nodes], 0))
		spoil(impl.MeasuredWith(part, 400, units[:nodes]))
		if !sameList(joined(answers...), kept) {
			t.Errorf("the answers for %v share memory", list)
		}
		for _, answer := range answers {
			spoil(answer)
		}
		if !sameNodes(store, append(copyNodes(list), gate(77, 77), gate(78, 78))) || !sameList(units, before) {
			t.Errorf("arguments were written to: %v, %v", store, units)
		}
	}
}

func TestAnswersOfRulesAreNewMemory(t *testing.T) {
	for _, list := range fewRules() {
		store := append(copyRules(list), custom(77, 77, 77, 77, 77), custom(78, 78, 78, 78, 78))
		part := store[:len(list)]
		dead := impl.DeadRules(part)
		kept := copyOf(dead)
		spoil(impl.DeadRules(part))
		if !sameList(dead, kept) {
			t.Errorf("the answers for %v share memory", list)
		}
		spoil(dead)
		impl.ValidRules(part)
		impl.FirstRule(part, 7, 15)
		impl.VerdictOf(part, 7, 15)
		if !sameRules(store, append(copyRules(list), custom(77, 77, 77, 77, 77), custom(78, 78, 78, 78, 78))) {
			t.Errorf("arguments were written to: %v", store)
		}
	}
}

func TestAnswersOfWorkAreNewMemory(t *testing.T) {
	weights := []int{6, 3, 1, 77, 77}
	order := impl.DutyOrder(6, weights[:3])
	spoil(impl.DutyOrder(6, weights[:3]))
	if !isList(order, 0, 1, 0, 0, 1, 2) || !isList(weights, 6, 3, 1, 77, 77) {
		t.Errorf("DutyOrder = %v of %v", order, weights)
	}
	spoil(order)
	if !isList(weights, 6, 3, 1, 77, 77) {
		t.Errorf("arguments were written to: %v", weights)
	}
	for _, list := range fewPlots() {
		count := len(list)
		store := append(copyPlots(list), plotOf(77, 77), plotOf(78, 78))
		asked := append(reversed(indices(count)), 87, 88)
		plots := impl.BestPlots(store[:count], 100)
		kept := copyOf(plots)
		spoil(impl.BestPlots(store[:count], 100))
		if !sameList(plots, kept) {
			t.Errorf("the answers for %v share memory", list)
		}
		spoil(plots)
		impl.ValidPlots(store[:count])
		impl.BestYield(store[:count], 100)
		impl.PlotsNeed(store[:count], asked[:count])
		if !samePlots(store, append(copyPlots(list), plotOf(77, 77), plotOf(78, 78))) || !sameList(asked, append(reversed(indices(count)), 87, 88)) {
			t.Errorf("arguments were written to: %v, %v", store, asked)
		}
	}
}
