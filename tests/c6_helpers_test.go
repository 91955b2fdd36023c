package tests

import (
	"testing"

	"loop.example/watershares/impl"
)

// dispute is a number of units, and claims for them.
type dispute struct {
	n      int
	claims []int
}

// lacking returns what the claims are lacking.
func (s dispute) lacking() int {
	return total(s.claims) - s.n
}

// fewClaims returns valid claims made by hand, those at the limits among them.
func fewClaims() [][]int {
	return [][]int{
		nil, {}, {0}, {1}, {2}, {3}, {499}, {500}, {0, 0}, {0, 0, 0, 0, 0}, twelve(0),
		{0, 5}, {5, 0}, {0, 8}, {0, 0, 7}, {7, 0, 0}, {0, 7, 0}, {4, 0, 4, 0, 4}, {0, 6, 0, 6}, {0, 0, 0, 0, 0, 0, 0, 0, 0, 0, 0, 500},
		{1, 1}, {4, 4}, {5, 5}, {6, 6, 6}, {5, 5, 5}, {3, 3, 3, 3, 3}, {2, 2, 2, 2, 2, 2}, {500, 500}, {500, 500, 500, 500, 500}, twelve(1), twelve(2), twelve(9), twelve(499), twelve(500),
		{10, 20}, {20, 10}, {2, 500}, {500, 2}, {1, 500}, {499, 500}, {500, 499}, {498, 500}, {7, 8}, {3, 4},
		{10, 20, 30}, {30, 20, 10}, {20, 30, 10}, {1, 2, 3, 4, 5}, {5, 4, 3, 2, 1}, {2, 4, 6, 8, 10}, {8, 2, 8, 2, 8}, {2, 8, 2, 8, 2}, {100, 200, 300}, {500, 0, 500}, {1, 1, 1, 1, 500}, {500, 1, 1, 1, 1},
		{1, 2, 3, 4, 5, 6, 7, 8, 9, 10, 11, 12}, {24, 22, 20, 18, 16, 14, 12, 10, 8, 6, 4, 2}, append(twelve(0)[1:], 500), append([]int{500}, twelve(1)[1:]...), append(twelve(500)[1:], 1),
	}
}

// madeClaims returns claims without a pattern: few units, any units, equal ones with some of 0, or such that are near to each other.
func madeClaims(d *dice, count int) []int {
	list := []int{}
	kind := d.roll(4)
	near := d.roll(490)
	for range count {
		switch kind {
		case 0:
			list = append(list, d.roll(9))
		case 1:
			list = append(list, d.roll(501))
		case 2:
			list = append(list, near*d.roll(2))
		default:
			list = append(list, near+d.roll(11))
		}
	}
	return list
}

// someClaims returns valid claims of many kinds.
func someClaims() [][]int {
	lists := fewClaims()
	d := &dice{seed: 101}
	for count := 1; count <= 12; count++ {
		for range 8 {
			lists = append(lists, madeClaims(d, count))
		}
	}
	return lists
}

// allClaims returns all lists of so many claims, each of which is at most a number.
func allClaims(count int, most int) [][]int {
	lists := [][]int{{}}
	for range count {
		longer := [][]int{}
		for _, list := range lists {
			for claim := range most + 1 {
				longer = append(longer, append(copyOf(list), claim))
			}
		}
		lists = longer
	}
	return lists
}

// smallClaims returns all lists of at most three claims that are small.
func smallClaims() [][]int {
	lists := allClaims(1, 9)
	lists = append(lists, allClaims(2, 7)...)
	return append(lists, allClaims(3, 4)...)
}

// evened returns claims without the units that make them odd.
func evened(claims []int) []int {
	list := []int{}
	for _, claim := range claims {
		list = append(list, claim-claim%2)
	}
	return list
}

// minus returns the differences of the numbers of two lists.
func minus(list []int, less []int) []int {
	rest := []int{}
	for i := range list {
		rest = append(rest, list[i]-less[i])
	}
	return rest
}

// timesEach returns each number so many times.
func timesEach(list []int, times int) []int {
	all := []int{}
	for _, n := range list {
		all = append(all, n*times)
	}
	return all
}

// askedUnits returns numbers of units that can be divided among claims: all of them if they are few, otherwise those near to the limits, to the half, and to where a claim is met.
func askedUnits(claims []int) []int {
	sum := total(claims)
	if sum <= 40 {
		return append(indices(sum), sum)
	}
	near := []int{0, 1, 13, sum / 4, sum / 3, sum / 2, sum * 2 / 3, sum - 13, sum - 1, sum, 499, 500}
	for _, claim := range claims {
		near = append(near, claim, sum-claim, claim*len(claims)/2)
	}
	list := []int{}
	for _, n := range near {
		for m := max(0, n-1); m <= min(sum, n+1); m++ {
			if !isOneOf(m, list) {
				list = append(list, m)
			}
		}
	}
	return list
}

// disputesOf returns units with claims, for each of some lists of claims.
func disputesOf(lists [][]int) []dispute {
	disputes := []dispute{}
	for _, claims := range lists {
		for _, n := range askedUnits(claims) {
			disputes = append(disputes, dispute{n, claims})
		}
	}
	return disputes
}

// someDisputes returns units with valid claims of many kinds.
func someDisputes() []dispute {
	return disputesOf(append(someClaims(), smallClaims()...))
}

// evenDisputes returns units with claims of many kinds that are all even.
func evenDisputes() []dispute {
	lists := [][]int{}
	for _, claims := range someClaims() {
		lists = append(lists, evened(claims))
	}
	for _, claims := range smallClaims() {
		lists = append(lists, timesEach(claims, 2))
	}
	return disputesOf(lists)
}

// fewDisputes returns units with at most five claims.
func fewDisputes() []dispute {
	list := []dispute{}
	for _, s := range someDisputes() {
		if len(s.claims) <= 5 {
			list = append(list, s)
		}
	}
	return list
}

// pairDisputes returns units with two claims that are both even: all of them if they are small, and some at the limits.
func pairDisputes() []dispute {
	list := []dispute{}
	for _, claims := range allClaims(2, 10) {
		for n := range 2*total(claims) + 1 {
			list = append(list, dispute{n, timesEach(claims, 2)})
		}
	}
	for _, claims := range [][]int{{500, 500}, {500, 498}, {498, 500}, {500, 2}, {2, 500}, {500, 0}, {0, 500}, {100, 300}, {300, 100}, {250, 250}, {248, 252}} {
		for n := range total(claims) + 1 {
			list = append(list, dispute{n, claims})
		}
	}
	return list
}

// badClaims returns claims that are not valid, whatever the units.
func badClaims() [][]int {
	return [][]int{
		{-1}, {501}, {-2}, {502}, {1000}, {0, -1}, {-1, 0}, {1, -1}, {2, -2}, {-2, 2, 4}, {10, 501}, {501, 10}, {10, 20, -2, 30}, {10, 20, 502, 30}, {-500, 500}, {500, 500, 500, 500, 502},
		append(twelve(0), 0), append(twelve(2), 2), append(twelve(500), 500), append(twelve(0), 10), steady(0, 100), steady(0, 5000), append(twelve(500)[1:], 501), append(twelve(2)[1:], -2),
		{greatestInt}, {leastInt}, {greatestInt, 1}, {1, leastInt}, {greatestInt, leastInt},
		// The sums of these overflow to 0 or a few units.
		{greatestInt, greatestInt, 2}, {leastInt, leastInt}, {greatestInt, greatestInt, 12}, {leastInt, leastInt, 10}, {greatestInt - 1, greatestInt - 1, 4},
	}
}

// badUnits returns numbers of units that cannot be divided among claims.
func badUnits(claims []int) []int {
	sum := total(claims)
	return []int{-1, -2, -sum - 1, sum + 1, sum + 2, 2*sum + 2, 6001, 10000, greatestInt, leastInt}
}

// badDisputes returns units with claims of which one is not valid; the claims are all even or not valid.
func badDisputes() []dispute {
	list := []dispute{}
	for _, claims := range fewClaims() {
		for _, n := range badUnits(claims) {
			list = append(list, dispute{n, evened(claims)})
		}
	}
	for _, claims := range badClaims() {
		for _, n := range []int{0, 1, 2, 10, 14, 500, total(claims), -1, greatestInt, leastInt} {
			list = append(list, dispute{n, claims})
		}
	}
	return list
}

// filledTo returns how much of each claim is under a level.
func filledTo(claims []int, level int) []int {
	list := []int{}
	for _, claim := range claims {
		list = append(list, min(claim, level))
	}
	return list
}

// gainsOf tells EqualGains by the level to which all claims can be filled: the first ones above it get the units that are left.
func gainsOf(s dispute) []int {
	level := 0
	for level < 500 && total(filledTo(s.claims, level+1)) <= s.n {
		level++
	}
	given := filledTo(s.claims, level)
	left := s.n - total(given)
	for i, claim := range s.claims {
		if left > 0 && claim > level {
			given[i]++
			left--
		}
	}
	return given
}

// lossesOf tells EqualLosses by the level to which all claims lose: the last ones above it lose the units that are still lacking.
func lossesOf(s dispute) []int {
	level := 0
	for level < 500 && total(filledTo(s.claims, level+1)) <= s.lacking() {
		level++
	}
	given := minus(s.claims, filledTo(s.claims, level))
	left := total(given) - s.n
	for i := len(given) - 1; i >= 0; i-- {
		if left > 0 && given[i] > 0 {
			given[i]--
			left--
		}
	}
	return given
}

// halvesFirst tells HalfFirst by the levels to which the halves of claims are filled, or lose.
func halvesFirst(s dispute) []int {
	halves := []int{}
	for _, claim := range s.claims {
		halves = append(halves, claim/2)
	}
	if 2*s.n <= total(s.claims) {
		return gainsOf(dispute{s.n, halves})
	}
	lost := minus(halves, lossesOf(dispute{s.n - total(halves), halves}))
	return minus(s.claims, lost)
}

// turnsOf tells InTurn by giving one unit after the other to the first claim of the order that is not met.
func turnsOf(s dispute, order []int) []int {
	given := make([]int, len(s.claims))
	for range s.n {
		for _, at := range order {
			if given[at] < s.claims[at] {
				given[at]++
				break
			}
		}
	}
	return given
}

// allTurnsOf tells AllTurns by adding up what turnsOf gives in each order.
func allTurnsOf(s dispute) []int {
	sums := make([]int, len(s.claims))
	for _, order := range allOrders(len(s.claims)) {
		for i, units := range turnsOf(s, order) {
			sums[i] += units
		}
	}
	return sums
}

// sureOf tells AtLeast by meeting all other claims first.
func sureOf(s dispute) []int {
	sure := []int{}
	for i := range s.claims {
		order := append(numbersWithout(indices(len(s.claims)), []int{i}), i)
		sure = append(sure, turnsOf(s, order)[i])
	}
	return sure
}

// sharesOf tells ByShares by a ranking of remainders.
func sharesOf(s dispute) []int {
	if total(s.claims) == 0 {
		return steady(0, len(s.claims))
	}
	return restSplit(s.n, s.claims)
}

// gapsOf tells GapsOf unit by unit: each unit parts those who have it from those who do not.
func gapsOf(list []int) int {
	gaps := 0
	for unit := 1; unit <= 500; unit++ {
		have := 0
		for _, n := range list {
			if n >= unit {
				have++
			}
		}
		gaps += have * (len(list) - have)
	}
	return gaps
}

// allGifts returns all divisions of units among claims.
func allGifts(s dispute) [][]int {
	gifts := [][]int{}
	for _, given := range allClaims(len(s.claims), max(0, s.n)) {
		good := total(given) == s.n
		for i, claim := range s.claims {
			good = good && given[i] <= claim
		}
		if good {
			gifts = append(gifts, given)
		}
	}
	return gifts
}

// movedUnit returns a division after one unit has gone from a claim to another one.
func movedUnit(given []int, from int, to int) []int {
	moved := copyOf(given)
	moved[from]--
	moved[to]++
	return moved
}

// ordersOf returns how many orders claims have, by counting them.
func ordersOf(claims []int) int {
	return len(allOrders(len(claims)))
}

// checkGiven checks a division against the one that is expected.
func checkGiven(t *testing.T, name string, s dispute, got []int, want []int) {
	t.Helper()
	if !sameList(got, want) {
		t.Errorf("%s of %d among %v = %v, not %v", name, s.n, s.claims, got, want)
	}
}

// checkGood checks that numbers are a division of units among claims, and that GoodGifts says so.
func checkGood(t *testing.T, name string, s dispute, given []int) {
	t.Helper()
	if !impl.GoodGifts(s.n, s.claims, given) {
		t.Errorf("%s of %d among %v = %v, and these are no good gifts", name, s.n, s.claims, given)
	}
	if len(given) != len(s.claims) || total(given) != s.n {
		t.Fatalf("%s of %d among %v = %v", name, s.n, s.claims, given)
	}
	for i, units := range given {
		if units < 0 || units > s.claims[i] {
			t.Errorf("%s of %d among %v = %v", name, s.n, s.claims, given)
		}
	}
}
