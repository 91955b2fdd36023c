package tests

import (
	"testing"

	"loop.example/watershares/impl"
)

func TestP77ClaimsCanBeMetInPart(t *testing.T) {
	for _, claims := range append(someClaims(), smallClaims()...) {
		for n := range total(claims) + 1 {
			if !impl.ValidClaims(n, claims) {
				t.Fatalf("ValidClaims(%d, %v) = false", n, claims)
			}
		}
		for _, n := range badUnits(claims) {
			if impl.ValidClaims(n, claims) {
				t.Errorf("ValidClaims(%d, %v) = true", n, claims)
			}
		}
		for _, given := range [][]int{impl.EqualGains(0, claims), impl.EqualLosses(0, claims), impl.InTurn(0, claims, indices(len(claims)))} {
			checkGiven(t, "nothing", dispute{0, claims}, given, steady(0, len(claims)))
		}
		sum := total(claims)
		for _, given := range [][]int{impl.EqualGains(sum, claims), impl.EqualLosses(sum, claims), impl.InTurn(sum, claims, indices(len(claims)))} {
			checkGiven(t, "all", dispute{sum, claims}, given, claims)
		}
	}
}

func TestP78NobodyGainsMuchLessThanAnotherOne(t *testing.T) {
	unmet := 0
	for _, s := range someDisputes() {
		given := impl.EqualGains(s.n, s.claims)
		checkGood(t, "EqualGains", s, given)
		for i, units := range given {
			if units == s.claims[i] {
				continue
			}
			unmet++
			for _, other := range given {
				if other > units+1 {
					t.Errorf("EqualGains(%d, %v) = %v: the claim %d gains less than another one", s.n, s.claims, given, i)
				}
			}
		}
	}
	if unmet < 5000 {
		t.Errorf("only %d claims are not met", unmet)
	}
}

func TestP79NoDivisionIsMoreEqual(t *testing.T) {
	lossesLess := 0
	sharesLess := 0
	for _, s := range someDisputes() {
		gaps := impl.GapsOf(impl.EqualGains(s.n, s.claims))
		losses := impl.GapsOf(impl.EqualLosses(s.n, s.claims))
		if gaps < 0 || gaps > losses {
			t.Errorf("the gaps of EqualGains(%d, %v) are %d, and of EqualLosses %d", s.n, s.claims, gaps, losses)
		}
		if gaps < losses {
			lossesLess++
		}
		if s.n > 500 {
			continue
		}
		shares := impl.GapsOf(impl.ByShares(s.n, s.claims))
		if gaps > shares {
			t.Errorf("the gaps of EqualGains(%d, %v) are %d, and of ByShares %d", s.n, s.claims, gaps, shares)
		}
		if gaps < shares {
			sharesLess++
		}
	}
	if lossesLess < 1000 || sharesLess < 1000 {
		t.Errorf("only %d times EqualLosses has more gaps, and %d times ByShares", lossesLess, sharesLess)
	}
}

func TestP79NoMovedUnitMakesADivisionMoreEqual(t *testing.T) {
	moved := 0
	for _, s := range someDisputes() {
		given := impl.EqualGains(s.n, s.claims)
		gaps := impl.GapsOf(given)
		for from := range given {
			for to := range given {
				if from == to || given[from] == 0 || given[to] == s.claims[to] {
					continue
				}
				moved++
				if after := impl.GapsOf(movedUnit(given, from, to)); after < gaps {
					t.Errorf("EqualGains(%d, %v) = %v, and moving a unit from %d to %d is more equal", s.n, s.claims, given, from, to)
				}
			}
		}
	}
	if moved < 10000 {
		t.Errorf("only %d units are moved", moved)
	}
}

func TestP79NoOtherGiftsAreMoreEqual(t *testing.T) {
	for _, claims := range allClaims(3, 4) {
		for n := range total(claims) + 1 {
			gaps := impl.GapsOf(impl.EqualGains(n, claims))
			for _, given := range allGifts(dispute{n, filledTo(claims, n)}) {
				if impl.GapsOf(given) < gaps {
					t.Errorf("EqualGains(%d, %v) has gaps of %d, and %v is more equal", n, claims, gaps, given)
				}
			}
		}
	}
}

func TestP80MoreUnitsTakeNothingAway(t *testing.T) {
	for _, claims := range append(someClaims(), smallClaims()...) {
		before := impl.EqualGains(0, claims)
		for n := 1; n <= min(total(claims), 700); n++ {
			given := impl.EqualGains(n, claims)
			checkOneMore(t, dispute{n, claims}, given, before)
			before = given
		}
	}
	for _, s := range someDisputes() {
		if s.n > 0 {
			checkOneMore(t, s, impl.EqualGains(s.n, s.claims), impl.EqualGains(s.n-1, s.claims))
		}
	}
}

// checkOneMore checks that one number of a division is 1 more than that of the division of 1 unit less, and all others are the same.
func checkOneMore(t *testing.T, s dispute, given []int, before []int) {
	t.Helper()
	more := 0
	for i, units := range minus(given, before) {
		if units == 1 {
			more++
		} else if units != 0 {
			t.Errorf("EqualGains of %d among %v = %v, and of 1 less %v: the claim %d", s.n, s.claims, given, before, i)
		}
	}
	if more != 1 {
		t.Errorf("EqualGains of %d among %v = %v, and of 1 less %v", s.n, s.claims, given, before)
	}
}

func TestP81LossesAreGainsOfWhatIsLacking(t *testing.T) {
	uneven := 0
	for _, s := range someDisputes() {
		lost := reversed(impl.EqualGains(s.lacking(), reversed(s.claims)))
		checkGiven(t, "EqualLosses", s, impl.EqualLosses(s.n, s.claims), minus(s.claims, lost))
		if !sameList(lost, impl.EqualGains(s.lacking(), s.claims)) {
			uneven++
		}
	}
	if uneven < 1000 {
		t.Errorf("only %d times the order tells who loses", uneven)
	}
}

func TestP82NobodyLosesMuchLessThanAnotherOne(t *testing.T) {
	left := 0
	for _, s := range someDisputes() {
		given := impl.EqualLosses(s.n, s.claims)
		checkGood(t, "EqualLosses", s, given)
		lost := minus(s.claims, given)
		for i, units := range given {
			if units == 0 {
				continue
			}
			left++
			for _, other := range lost {
				if lost[i] < other-1 {
					t.Errorf("EqualLosses(%d, %v) = %v: the claim %d loses less than another one", s.n, s.claims, given, i)
				}
			}
		}
	}
	if left < 5000 {
		t.Errorf("only %d claims still have units", left)
	}
}

func TestP83HalvesComeFirst(t *testing.T) {
	fewer := 0
	more := 0
	half := 0
	for _, s := range evenDisputes() {
		given := impl.HalfFirst(s.n, s.claims)
		checkGood(t, "HalfFirst", s, given)
		for i, units := range given {
			if 2*units > s.claims[i] && s.n <= s.lacking() || 2*units < s.claims[i] && s.n >= s.lacking() {
				t.Errorf("HalfFirst(%d, %v) = %v: the claim %d", s.n, s.claims, given, i)
			}
		}
		switch {
		case s.n < s.lacking():
			fewer++
		case s.n > s.lacking():
			more++
		default:
			half++
		}
	}
	if fewer < 1000 || more < 1000 || half < 150 {
		t.Errorf("only %d times there is less than half, %d times more, and %d times just the half", fewer, more, half)
	}
}

func TestP84WhatIsGainedIsLostTheOtherWayRound(t *testing.T) {
	for _, s := range evenDisputes() {
		back := reversed(impl.HalfFirst(s.lacking(), reversed(s.claims)))
		checkGiven(t, "what is lost by HalfFirst", s, minus(s.claims, impl.HalfFirst(s.n, s.claims)), back)
	}
}

func TestP85TwoWhoContestShareWhatIsContested(t *testing.T) {
	contested := 0
	for _, s := range pairDisputes() {
		given := impl.HalfFirst(s.n, s.claims)
		sure := impl.AtLeast(s.n, s.claims)
		checkGood(t, "HalfFirst", s, given)
		if len(sure) != 2 {
			t.Fatalf("AtLeast(%d, %v) = %v", s.n, s.claims, sure)
		}
		gains := minus(given, sure)
		if gains[0] < 0 || gains[1] < 0 {
			t.Errorf("HalfFirst(%d, %v) = %v, less than AtLeast %v", s.n, s.claims, given, sure)
		}
		if gains[0]-gains[1] > 1 || gains[1]-gains[0] > 1 {
			t.Errorf("HalfFirst(%d, %v) = %v, and AtLeast is %v", s.n, s.claims, given, sure)
		}
		if total(gains) > 1 && total(sure) > 0 {
			contested++
		}
	}
	if contested < 1000 {
		t.Errorf("only %d times a part of the units is contested", contested)
	}
}

func TestP86FirstComeFirstServed(t *testing.T) {
	d := &dice{seed: 107}
	unmet := 0
	for _, s := range someDisputes() {
		for _, order := range someOrdersOf(d, s.claims) {
			given := impl.InTurn(s.n, s.claims, order)
			checkGood(t, "InTurn", s, given)
			met := true
			for _, at := range order {
				if given[at] > 0 && !met {
					t.Errorf("InTurn(%d, %v, %v) = %v: %d gets units too early", s.n, s.claims, order, given, at)
				}
				met = met && given[at] == s.claims[at]
			}
			if !met {
				unmet++
			}
		}
	}
	if unmet < 5000 {
		t.Errorf("only %d times a claim is not met", unmet)
	}
}

func TestP87TheLastOneGetsWhatIsLeft(t *testing.T) {
	d := &dice{seed: 109}
	some := 0
	for _, s := range someDisputes() {
		if len(s.claims) == 0 {
			continue
		}
		sure := impl.AtLeast(s.n, s.claims)
		for _, order := range someOrdersOf(d, s.claims) {
			last := order[len(order)-1]
			given := impl.InTurn(s.n, s.claims, order)
			if given[last] != min(sure[last], s.claims[last]) {
				t.Errorf("InTurn(%d, %v, %v) = %v, and AtLeast is %v", s.n, s.claims, order, given, sure)
			}
			if sure[last] > 0 && sure[last] < s.claims[last] {
				some++
			}
		}
	}
	if some < 1000 {
		t.Errorf("only %d times the last one gets a part of its claim", some)
	}
}

func TestP88AllOrdersGiveAllUnits(t *testing.T) {
	equal := 0
	for _, s := range fewDisputes() {
		all := impl.AllTurns(s.n, s.claims)
		if len(all) != len(s.claims) || total(all) != s.n*ordersOf(s.claims) {
			t.Fatalf("AllTurns(%d, %v) = %v", s.n, s.claims, all)
		}
		for i := range all {
			for k := range i {
				if s.claims[i] != s.claims[k] {
					continue
				}
				equal++
				if all[i] != all[k] {
					t.Errorf("AllTurns(%d, %v) = %v: %d and %d claim the same", s.n, s.claims, all, i, k)
				}
			}
		}
	}
	if equal < 1000 {
		t.Errorf("only %d claims are equal", equal)
	}
}

func TestP89WhatAllOrdersGiveAndLackIsTurnedRound(t *testing.T) {
	for _, s := range fewDisputes() {
		lost := minus(timesEach(s.claims, ordersOf(s.claims)), impl.AllTurns(s.n, s.claims))
		checkGiven(t, "what is lost by AllTurns", s, lost, impl.AllTurns(s.lacking(), s.claims))
	}
}

func TestP90TwoWaysToContestAgree(t *testing.T) {
	odd := 0
	for _, s := range pairDisputes() {
		all := impl.AllTurns(s.n, s.claims)
		twice := timesEach(impl.HalfFirst(s.n, s.claims), 2)
		if len(all) != 2 || len(twice) != 2 {
			t.Fatalf("AllTurns(%d, %v) = %v, and twice HalfFirst is %v", s.n, s.claims, all, twice)
		}
		for i, more := range minus(all, twice) {
			if more < -1 || more > 1 {
				t.Errorf("AllTurns(%d, %v) = %v, and twice HalfFirst is %v: the claim %d", s.n, s.claims, all, twice, i)
			}
			if more != 0 {
				odd++
			}
		}
	}
	if odd < 500 {
		t.Errorf("only %d times they are 1 unit apart", odd)
	}
}

// checkSure checks that a division gives each claim at least what nobody else claims.
func checkSure(t *testing.T, name string, s dispute, given []int, sure []int) {
	t.Helper()
	if len(given) != len(sure) {
		t.Fatalf("%s of %d among %v = %v", name, s.n, s.claims, given)
	}
	for i, units := range given {
		if units < sure[i] || sure[i] < 0 {
			t.Errorf("%s of %d among %v = %v, less than AtLeast %v", name, s.n, s.claims, given, sure)
		}
	}
}

func TestP91WhatNobodyElseClaimsIsSure(t *testing.T) {
	some := 0
	for _, s := range append(someDisputes(), evenDisputes()...) {
		sure := impl.AtLeast(s.n, s.claims)
		if len(sure) != len(s.claims) || total(sure) > s.n {
			t.Fatalf("AtLeast(%d, %v) = %v", s.n, s.claims, sure)
		}
		checkSure(t, "EqualGains", s, impl.EqualGains(s.n, s.claims), sure)
		checkSure(t, "EqualLosses", s, impl.EqualLosses(s.n, s.claims), sure)
		if sameList(s.claims, evened(s.claims)) {
			checkSure(t, "HalfFirst", s, impl.HalfFirst(s.n, s.claims), sure)
		}
		if total(sure) > 0 && s.lacking() > 0 {
			some++
		}
	}
	if some < 1000 {
		t.Errorf("only %d times a part of what is claimed is sure", some)
	}
}

func TestP92SharesOfClaimsAreClaims(t *testing.T) {
	divided := 0
	for _, s := range someDisputes() {
		if s.n > 500 {
			continue
		}
		given := impl.ByShares(s.n, s.claims)
		checkGood(t, "ByShares", s, given)
		for i, units := range given {
			// With claims that are all 0 there are no parts.
			if sum := total(s.claims); sum > 0 && units < s.n*s.claims[i]/sum {
				t.Errorf("ByShares(%d, %v) = %v: the claim %d", s.n, s.claims, given, i)
			}
		}
		divided++
	}
	if divided < 2000 {
		t.Errorf("only %d divisions", divided)
	}
}

func TestP93EqualNumbersHaveNoGaps(t *testing.T) {
	equal := 0
	for _, list := range append(someClaims(), smallClaims()...) {
		gaps := impl.GapsOf(list)
		same := len(list) == 0 || sameList(list, steady(list[0], len(list)))
		if gaps < 0 || same != (gaps == 0) || impl.GapsOf(reversed(list)) != gaps {
			t.Errorf("GapsOf(%v) = %d, and %d in reverse order", list, gaps, impl.GapsOf(reversed(list)))
		}
		if same {
			equal++
		}
	}
	if equal < 40 {
		t.Errorf("only %d lists of equal numbers", equal)
	}
	for count := range 13 {
		for n := range 501 {
			if gaps := impl.GapsOf(steady(n, count)); gaps != 0 {
				t.Errorf("GapsOf %d times %d = %d", count, n, gaps)
			}
		}
	}
	// One number that differs from all others by 1 is enough, wherever it is.
	for count := 2; count <= 12; count++ {
		for at := range count {
			list := steady(7, count)
			list[at] = 8
			if gaps := impl.GapsOf(list); gaps != count-1 {
				t.Errorf("GapsOf(%v) = %d", list, gaps)
			}
		}
	}
}

// madeGifts returns a division of units among claims without a pattern.
func madeGifts(d *dice, s dispute) []int {
	given := make([]int, len(s.claims))
	left := s.n
	for left > 0 {
		at := d.roll(len(given))
		units := min(left, s.claims[at]-given[at], 1+d.roll(100))
		given[at] += units
		left -= units
	}
	return given
}

func TestP94GiftsCanBeGivenBack(t *testing.T) {
	d := &dice{seed: 113}
	for _, s := range someDisputes() {
		ways := [][]int{impl.EqualGains(s.n, s.claims), impl.EqualLosses(s.n, s.claims), impl.InTurn(s.n, s.claims, mixed(d, len(s.claims))), madeGifts(d, s)}
		for _, given := range ways {
			checkGood(t, "a division", s, given)
			checkGood(t, "what is lacking", dispute{s.lacking(), s.claims}, minus(s.claims, given))
		}
	}
}
