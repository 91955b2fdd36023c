package tests

import (
	"testing"

	"loop.example/watershares/impl"
)

func TestValidClaims(t *testing.T) {
	for _, s := range someDisputes() {
		if !impl.ValidClaims(s.n, s.claims) {
			t.Errorf("ValidClaims(%d, %v) = false", s.n, s.claims)
		}
	}
	for _, s := range badDisputes() {
		if impl.ValidClaims(s.n, s.claims) {
			t.Errorf("ValidClaims(%d, %v) = true", s.n, s.claims)
		}
	}
	for claim := -2; claim <= 503; claim++ {
		for n := -2; n <= 503; n++ {
			if fine := claim >= 0 && claim <= 500 && n >= 0 && n <= claim; impl.ValidClaims(n, []int{claim}) != fine {
				t.Errorf("ValidClaims(%d, %d) is not %v", n, claim, fine)
			}
		}
	}
}

func TestLimitOfClaims(t *testing.T) {
	for count := range 16 {
		for _, claim := range []int{0, 2, 500} {
			s := dispute{claim * count / 2, steady(claim, count)}
			fine := count <= 12
			given := impl.EqualGains(s.n, s.claims)
			if impl.ValidClaims(s.n, s.claims) != fine || fine != (total(given) == s.n && len(given) == count) {
				t.Errorf("ValidClaims(%d, %v) is not %v", s.n, s.claims, fine)
			}
			for _, given := range [][]int{given, impl.EqualLosses(s.n, s.claims), impl.HalfFirst(s.n, s.claims), impl.InTurn(s.n, s.claims, indices(count)), impl.AtLeast(s.n, s.claims)} {
				if fine != (len(given) == count) {
					t.Errorf("%d among %d claims of %d: %v", s.n, count, claim, given)
				}
			}
			if all := impl.AllTurns(s.n, s.claims); len(all) != count && count <= 5 || len(all) != 0 && count > 5 {
				t.Errorf("AllTurns(%d, %v) = %v", s.n, s.claims, all)
			}
		}
	}
}

func TestEqualGains(t *testing.T) {
	for _, s := range someDisputes() {
		checkGiven(t, "EqualGains", s, impl.EqualGains(s.n, s.claims), gainsOf(s))
	}
}

func TestEqualLosses(t *testing.T) {
	for _, s := range someDisputes() {
		checkGiven(t, "EqualLosses", s, impl.EqualLosses(s.n, s.claims), lossesOf(s))
	}
}

func TestHalfFirst(t *testing.T) {
	halves := 0
	for _, s := range evenDisputes() {
		checkGiven(t, "HalfFirst", s, impl.HalfFirst(s.n, s.claims), halvesFirst(s))
		if s.n > 0 && s.n == s.lacking() {
			halves++
		}
	}
	if halves < 150 {
		t.Errorf("only %d times there is just the half", halves)
	}
}

// givenCase is units with claims, and what three ways to divide them give.
type givenCase struct {
	n      int
	claims []int
	gains  []int
	losses []int
	halves []int
}

func TestGiftsByHand(t *testing.T) {
	cases := []givenCase{
		{0, nil, nil, nil, nil}, {0, []int{0}, []int{0}, []int{0}, []int{0}}, {0, []int{0, 0}, []int{0, 0}, []int{0, 0}, []int{0, 0}}, {0, []int{4, 6}, []int{0, 0}, []int{0, 0}, []int{0, 0}}, {10, []int{4, 6}, []int{4, 6}, []int{4, 6}, []int{4, 6}},
		// A unit goes to the first one, and is lost by the last one.
		{1, []int{4, 4, 4}, []int{1, 0, 0}, []int{1, 0, 0}, []int{1, 0, 0}}, {2, []int{4, 4, 4}, []int{1, 1, 0}, []int{1, 1, 0}, []int{1, 1, 0}}, {11, []int{4, 4, 4}, []int{4, 4, 3}, []int{4, 4, 3}, []int{4, 4, 3}}, {7, []int{4, 4, 4}, []int{3, 2, 2}, []int{3, 2, 2}, []int{3, 2, 2}},
		{1, []int{4, 6}, []int{1, 0}, []int{0, 1}, []int{1, 0}}, {2, []int{4, 6}, []int{1, 1}, []int{0, 2}, []int{1, 1}}, {3, []int{4, 6}, []int{2, 1}, []int{1, 2}, []int{2, 1}}, {1, []int{6, 4}, []int{1, 0}, []int{1, 0}, []int{1, 0}}, {3, []int{6, 4}, []int{2, 1}, []int{3, 0}, []int{2, 1}},
		// Just the half, a unit less and a unit more.
		{4, []int{4, 6}, []int{2, 2}, []int{1, 3}, []int{2, 2}}, {5, []int{4, 6}, []int{3, 2}, []int{2, 3}, []int{2, 3}}, {6, []int{4, 6}, []int{3, 3}, []int{2, 4}, []int{2, 4}}, {7, []int{4, 6}, []int{4, 3}, []int{3, 4}, []int{3, 4}},
		{29, []int{10, 20, 30}, []int{10, 10, 9}, []int{0, 10, 19}, []int{5, 10, 14}}, {30, []int{10, 20, 30}, []int{10, 10, 10}, []int{0, 10, 20}, []int{5, 10, 15}}, {31, []int{10, 20, 30}, []int{10, 11, 10}, []int{1, 10, 20}, []int{5, 10, 16}},
		{20, []int{10, 20, 30}, []int{7, 7, 6}, []int{0, 5, 15}, []int{5, 8, 7}}, {40, []int{10, 20, 30}, []int{10, 15, 15}, []int{4, 13, 23}, []int{5, 13, 22}}, {41, []int{10, 20, 30}, []int{10, 16, 15}, []int{4, 14, 23}, []int{5, 13, 23}}, {50, []int{10, 20, 30}, []int{10, 20, 20}, []int{7, 17, 26}, []int{7, 17, 26}},
		// Claims of 0 get nothing, and lose nothing.
		{1, []int{0, 6}, []int{0, 1}, []int{0, 1}, []int{0, 1}}, {5, []int{6, 0}, []int{5, 0}, []int{5, 0}, []int{5, 0}}, {3, []int{0, 4, 0, 4, 0}, []int{0, 2, 0, 1, 0}, []int{0, 2, 0, 1, 0}, []int{0, 2, 0, 1, 0}}, {5, []int{0, 4, 0, 4, 0}, []int{0, 3, 0, 2, 0}, []int{0, 3, 0, 2, 0}, []int{0, 3, 0, 2, 0}},
		// A small claim is met first if all gain the same, and is the first one without units if all lose the same.
		{100, []int{2, 500}, []int{2, 98}, []int{0, 100}, []int{1, 99}}, {498, []int{2, 500}, []int{2, 496}, []int{0, 498}, []int{1, 497}}, {500, []int{2, 500}, []int{2, 498}, []int{1, 499}, []int{1, 499}}, {501, []int{2, 500}, []int{2, 499}, []int{2, 499}, []int{2, 499}}, {501, []int{500, 2}, []int{499, 2}, []int{500, 1}, []int{500, 1}},
		{3001, twelve(500), append([]int{251}, steady(250, 11)...), append([]int{251}, steady(250, 11)...), append([]int{251}, steady(250, 11)...)}, {5999, twelve(500), append(steady(500, 11), 499), append(steady(500, 11), 499), append(steady(500, 11), 499)},
	}
	for _, c := range cases {
		s := dispute{c.n, c.claims}
		checkGiven(t, "EqualGains", s, impl.EqualGains(c.n, c.claims), c.gains)
		checkGiven(t, "EqualLosses", s, impl.EqualLosses(c.n, c.claims), c.losses)
		checkGiven(t, "HalfFirst", s, impl.HalfFirst(c.n, c.claims), c.halves)
	}
}

func TestHalfFirstOfOddClaims(t *testing.T) {
	odd := 0
	for _, s := range someDisputes() {
		if sameList(s.claims, evened(s.claims)) {
			continue
		}
		odd++
		if given := impl.HalfFirst(s.n, s.claims); len(given) != 0 {
			t.Errorf("HalfFirst(%d, %v) = %v", s.n, s.claims, given)
		}
	}
	if odd < 1000 {
		t.Errorf("only %d times a claim is odd", odd)
	}
	// One claim that is odd is enough, wherever it is, even if the sum is even.
	for _, claims := range [][]int{{1}, {499}, {3, 4}, {4, 3}, {3, 5}, {2, 2, 1}, {1, 2, 2}, {2, 1, 2}, {1, 1}, append(twelve(500)[1:], 499), append([]int{499}, twelve(500)[1:]...)} {
		for _, n := range []int{0, 1, total(claims) / 2, total(claims)} {
			if given := impl.HalfFirst(n, claims); len(given) != 0 {
				t.Errorf("HalfFirst(%d, %v) = %v", n, claims, given)
			}
		}
	}
}

// someOrdersOf returns orders of so many claims: all of them if the claims are few.
func someOrdersOf(d *dice, claims []int) [][]int {
	if len(claims) <= 3 {
		return allOrders(len(claims))
	}
	order := indices(len(claims))
	return [][]int{order, reversed(order), mixed(d, len(claims)), mixed(d, len(claims))}
}

func TestInTurn(t *testing.T) {
	d := &dice{seed: 103}
	for _, s := range someDisputes() {
		for _, order := range someOrdersOf(d, s.claims) {
			if given := impl.InTurn(s.n, s.claims, order); !sameList(given, turnsOf(s, order)) {
				t.Errorf("InTurn(%d, %v, %v) = %v, not %v", s.n, s.claims, order, given, turnsOf(s, order))
			}
		}
	}
}

func TestTurnsByHand(t *testing.T) {
	c := []int{10, 20, 30}
	if !isList(impl.InTurn(15, c, []int{2, 0, 1}), 0, 0, 15) || !isList(impl.InTurn(35, c, []int{2, 0, 1}), 5, 0, 30) || !isList(impl.InTurn(45, c, []int{2, 0, 1}), 10, 5, 30) || !isList(impl.InTurn(45, c, []int{1, 2, 0}), 0, 20, 25) {
		t.Error("InTurn of three claims")
	}
	if !isList(impl.InTurn(10, c, []int{0, 1, 2}), 10, 0, 0) || !isList(impl.InTurn(11, c, []int{0, 1, 2}), 10, 1, 0) || !isList(impl.InTurn(9, c, []int{0, 1, 2}), 9, 0, 0) || !isList(impl.InTurn(0, c, []int{0, 1, 2}), 0, 0, 0) || !isList(impl.InTurn(60, c, []int{1, 0, 2}), 10, 20, 30) {
		t.Error("InTurn where a claim is just met")
	}
	if !isList(impl.InTurn(7, []int{0, 7}, []int{0, 1}), 0, 7) || !isList(impl.InTurn(3, []int{0, 7}, []int{1, 0}), 0, 3) || len(impl.InTurn(0, nil, nil)) != 0 || !isList(impl.InTurn(0, []int{0}, []int{0}), 0) {
		t.Error("InTurn of claims of 0")
	}
	if !isList(impl.AllTurns(10, []int{10, 20}), 10, 10) || !isList(impl.AllTurns(11, []int{10, 20}), 10, 12) || !isList(impl.AllTurns(9, []int{10, 20}), 9, 9) || !isList(impl.AllTurns(7, []int{9}), 7) || !isList(impl.AllTurns(0, []int{0}), 0) || len(impl.AllTurns(0, nil)) != 0 {
		t.Error("AllTurns of two claims, of one, and of none")
	}
	// In two orders the first claim is the first one, in two the last one, in one it comes after 20, and in one after 30.
	if !isList(impl.AllTurns(35, c), 35, 65, 110) || !isList(impl.AllTurns(60, c), 60, 120, 180) || !isList(impl.AllTurns(30, c), 30, 60, 90) || !isList(impl.AllTurns(1, c), 2, 2, 2) {
		t.Errorf("AllTurns of three claims: %v", impl.AllTurns(35, c))
	}
	if !isList(impl.AllTurns(500, []int{500, 500, 500, 500, 500}), 12000, 12000, 12000, 12000, 12000) || !isList(impl.AllTurns(1, []int{0, 0, 0, 0, 1}), 0, 0, 0, 0, 120) || !isList(impl.AllTurns(1, []int{1, 1, 1, 1}), 6, 6, 6, 6) {
		t.Error("AllTurns of four and five claims")
	}
}

// badOrders returns lists that are no orders of so many claims.
func badOrders(count int) [][]int {
	list := [][]int{indices(count + 1), append(indices(count), 0), append(indices(count), -1)}
	if count == 0 {
		return append(list, []int{greatestInt}, []int{leastInt})
	}
	for at := range count {
		for _, n := range []int{-1, count, greatestInt, leastInt, (at + 1) % count} {
			order := indices(count)
			order[at] = n
			if n != at {
				list = append(list, order)
			}
		}
	}
	return append(list, nil, []int{}, indices(count-1), upTo(count), steady(-1, count))
}

func TestOtherOrders(t *testing.T) {
	for _, claims := range fewClaims() {
		for _, order := range badOrders(len(claims)) {
			for _, n := range []int{0, total(claims) / 2, total(claims)} {
				if given := impl.InTurn(n, claims, order); len(given) != 0 {
					t.Errorf("InTurn(%d, %v, %v) = %v", n, claims, order, given)
				}
			}
		}
	}
}

func TestAllTurns(t *testing.T) {
	for _, s := range fewDisputes() {
		checkGiven(t, "AllTurns", s, impl.AllTurns(s.n, s.claims), allTurnsOf(s))
	}
}

func TestAllTurnsOfManyClaims(t *testing.T) {
	many := 0
	for _, s := range someDisputes() {
		if len(s.claims) <= 5 {
			continue
		}
		many++
		if all := impl.AllTurns(s.n, s.claims); len(all) != 0 {
			t.Errorf("AllTurns(%d, %v) = %v", s.n, s.claims, all)
		}
	}
	if many < 500 {
		t.Errorf("only %d times there are many claims", many)
	}
}

func TestAtLeast(t *testing.T) {
	sure := 0
	for _, s := range someDisputes() {
		checkGiven(t, "AtLeast", s, impl.AtLeast(s.n, s.claims), sureOf(s))
		if s.lacking() > 0 && total(sureOf(s)) > 0 {
			sure++
		}
	}
	if sure < 500 {
		t.Errorf("only %d times a part of what is claimed is sure", sure)
	}
	c := []int{10, 20, 30}
	if !isList(impl.AtLeast(30, c), 0, 0, 0) || !isList(impl.AtLeast(31, c), 0, 0, 1) || !isList(impl.AtLeast(41, c), 0, 1, 11) || !isList(impl.AtLeast(59, c), 9, 19, 29) || !isList(impl.AtLeast(0, c), 0, 0, 0) || !isList(impl.AtLeast(7, []int{9}), 7) || !isList(impl.AtLeast(0, []int{0, 0}), 0, 0) || len(impl.AtLeast(0, nil)) != 0 {
		t.Error("AtLeast by hand")
	}
}

func TestByShares(t *testing.T) {
	divided := 0
	tooMany := 0
	for _, s := range someDisputes() {
		given := impl.ByShares(s.n, s.claims)
		if s.n > 500 {
			tooMany++
			checkGiven(t, "ByShares", s, given, nil)
		} else {
			divided++
			checkGiven(t, "ByShares", s, given, sharesOf(s))
		}
	}
	if divided < 2000 || tooMany < 500 {
		t.Errorf("only %d times there are at most 500 units, and %d times more", divided, tooMany)
	}
	if !isList(impl.ByShares(7, []int{6, 3, 1}), 4, 2, 1) || !isList(impl.ByShares(500, []int{500, 500}), 250, 250) || len(impl.ByShares(501, []int{500, 500})) != 0 || !isList(impl.ByShares(1, []int{4, 4}), 1, 0) || !isList(impl.ByShares(10, []int{4, 6}), 4, 6) || !isList(impl.ByShares(2, []int{0, 5, 0}), 0, 2, 0) {
		t.Error("ByShares by hand")
	}
}

func TestClaimsOfZero(t *testing.T) {
	for count := range 13 {
		claims := steady(0, count)
		s := dispute{0, claims}
		checkGiven(t, "EqualGains", s, impl.EqualGains(0, claims), claims)
		checkGiven(t, "EqualLosses", s, impl.EqualLosses(0, claims), claims)
		checkGiven(t, "HalfFirst", s, impl.HalfFirst(0, claims), claims)
		checkGiven(t, "InTurn", s, impl.InTurn(0, claims, indices(count)), claims)
		checkGiven(t, "AtLeast", s, impl.AtLeast(0, claims), claims)
		checkGiven(t, "ByShares", s, impl.ByShares(0, claims), claims)
		checkGood(t, "nothing", s, claims)
		for _, n := range badUnits(claims) {
			checkNoGifts(t, dispute{n, claims})
		}
	}
}

func TestGapsOf(t *testing.T) {
	for _, list := range append(someClaims(), smallClaims()...) {
		if gaps := impl.GapsOf(list); gaps != gapsOf(list) {
			t.Errorf("GapsOf(%v) = %d, not %d", list, gaps, gapsOf(list))
		}
	}
	if impl.GapsOf([]int{3}) != 0 || impl.GapsOf([]int{3, 5}) != 2 || impl.GapsOf([]int{5, 3}) != 2 || impl.GapsOf([]int{3, 5, 5}) != 4 || impl.GapsOf([]int{0, 500}) != 500 || impl.GapsOf([]int{500, 0, 500, 0, 500, 0, 500, 0, 500, 0, 500, 0}) != 18000 {
		t.Error("GapsOf by hand")
	}
	for _, bad := range badClaims() {
		if gaps := impl.GapsOf(bad); gaps != -1 {
			t.Errorf("GapsOf(%v) = %d", bad, gaps)
		}
	}
}

func TestGoodGifts(t *testing.T) {
	good := 0
	other := 0
	for _, claims := range append(allClaims(2, 3), []int{2, 0, 3}, []int{1, 1, 1}, []int{3, 1, 2}) {
		for n := -1; n <= total(claims)+1; n++ {
			gifts := allGifts(dispute{n, claims})
			for _, list := range allClaims(len(claims), 6) {
				// Numbers less than 0 are tried, too.
				given := minus(list, steady(2, len(list)))
				want := false
				for _, gift := range gifts {
					want = want || sameList(gift, given)
				}
				if impl.GoodGifts(n, claims, given) != want {
					t.Errorf("GoodGifts(%d, %v, %v) is not %v", n, claims, given, want)
				}
				if want {
					good++
				} else {
					other++
				}
			}
		}
	}
	if good < 100 || other < 2000 {
		t.Errorf("only %d gifts are good, and %d are not", good, other)
	}
}

// badGifts returns numbers that are no division of the sum of claims, all of which are met in it.
func badGifts(claims []int) [][]int {
	list := [][]int{append(copyOf(claims), 0), append([]int{0}, claims...), append(copyOf(claims), 1), append(copyOf(claims), greatestInt, leastInt, 1)}
	for at := range claims {
		less := copyOf(claims)
		less[at]--
		more := copyOf(claims)
		more[at]++
		list = append(list, less, more, claims[:at], append(copyOf(more), -1), append(copyOf(less), 1))
		for other := range claims {
			if other != at {
				list = append(list, movedUnit(claims, at, other))
			}
		}
	}
	return list
}

func TestOtherGifts(t *testing.T) {
	for _, claims := range fewClaims() {
		n := total(claims)
		checkGood(t, "all", dispute{n, claims}, claims)
		for _, given := range badGifts(claims) {
			if impl.GoodGifts(n, claims, given) {
				t.Errorf("GoodGifts(%d, %v, %v) = true", n, claims, given)
			}
		}
	}
	// The sums of these overflow to what is to be given.
	if impl.GoodGifts(10, []int{5, 5, 5}, []int{greatestInt, greatestInt, 12}) || impl.GoodGifts(10, []int{5, 5, 5}, []int{leastInt, leastInt, 10}) || impl.GoodGifts(10, []int{10, 10, 10}, []int{10, leastInt, leastInt}) {
		t.Error("GoodGifts of numbers that are too great")
	}
}

// checkNoGifts checks that units cannot be divided among claims in any way.
func checkNoGifts(t *testing.T, s dispute) {
	t.Helper()
	count := len(s.claims)
	checkGiven(t, "EqualGains", s, impl.EqualGains(s.n, s.claims), nil)
	checkGiven(t, "EqualLosses", s, impl.EqualLosses(s.n, s.claims), nil)
	checkGiven(t, "HalfFirst", s, impl.HalfFirst(s.n, s.claims), nil)
	checkGiven(t, "InTurn", s, impl.InTurn(s.n, s.claims, indices(count)), nil)
	checkGiven(t, "InTurn", s, impl.InTurn(s.n, s.claims, nil), nil)
	checkGiven(t, "AllTurns", s, impl.AllTurns(s.n, s.claims), nil)
	checkGiven(t, "AtLeast", s, impl.AtLeast(s.n, s.claims), nil)
	checkGiven(t, "ByShares", s, impl.ByShares(s.n, s.claims), nil)
	for _, given := range [][]int{s.claims, steady(0, count), append([]int{s.n}, steady(0, count)...)[:count], nil} {
		if impl.GoodGifts(s.n, s.claims, given) {
			t.Errorf("GoodGifts(%d, %v, %v) = true", s.n, s.claims, given)
		}
	}
}

func TestOtherClaims(t *testing.T) {
	for _, s := range badDisputes() {
		checkNoGifts(t, s)
	}
}

func TestAnswersOfClaimsAreNewMemory(t *testing.T) {
	for _, list := range fewClaims() {
		count := len(list)
		claims := append(copyOf(list), 77, 78)
		order := append(reversed(indices(count)), 87, 88)
		n := total(list) / 2
		given := append(impl.EqualGains(n, list), 97, 98)
		before := joined(claims, order, given)
		answers := [][]int{
			impl.EqualGains(n, claims[:count]), impl.EqualLosses(n, claims[:count]), impl.HalfFirst(n, claims[:count]), impl.InTurn(n, claims[:count], order[:count]),
			impl.AllTurns(n, claims[:count]), impl.AtLeast(n, claims[:count]), impl.ByShares(n, claims[:count]),
		}
		kept := joined(answers...)
		spoil(impl.EqualGains(n, claims[:count]))
		spoil(impl.EqualLosses(n, claims[:count]))
		spoil(impl.HalfFirst(n, claims[:count]))
		spoil(impl.InTurn(n, claims[:count], order[:count]))
		spoil(impl.AllTurns(n, claims[:count]))
		spoil(impl.AtLeast(n, claims[:count]))
		spoil(impl.ByShares(n, claims[:count]))
		impl.ValidClaims(n, claims[:count])
		impl.GapsOf(claims[:count])
		impl.GoodGifts(n, claims[:count], given[:count])
		if !sameList(joined(answers...), kept) {
			t.Errorf("the answers for %d among %v share memory", n, list)
		}
		for _, answer := range answers {
			spoil(answer)
		}
		if !sameList(joined(claims, order, given), before) {
			t.Errorf("arguments were written to: %v, %v, %v", claims, order, given)
		}
	}
}
