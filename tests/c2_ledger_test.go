package tests

import (
	"testing"

	"loop.example/watershares/impl"
)

func TestValidLedger(t *testing.T) {
	for _, list := range someLedgers() {
		if !impl.ValidLedger(list) {
			t.Errorf("ValidLedger(%v) = false", list)
		}
	}
	for _, list := range badLedgers() {
		if impl.ValidLedger(list) {
			t.Errorf("ValidLedger(%v) = true", list)
		}
	}
}

// changedLedgers returns a ledger with one number of it changed, in many ways.
func changedLedgers(list []impl.Holding) [][]impl.Holding {
	lists := [][]impl.Holding{}
	for i := range list {
		for _, step := range []int{-1000, -1, 1, 2, 1000} {
			for field := range 3 {
				changed := copyLedger(list)
				switch field {
				case 0:
					changed[i].Owner += step
				case 1:
					changed[i].Share.Num += step
				case 2:
					changed[i].Share.Den += step
				}
				lists = append(lists, changed)
			}
		}
	}
	return lists
}

func TestValidLedgerOfChangedLedgers(t *testing.T) {
	valid := 0
	for _, list := range someLedgers() {
		for _, changed := range changedLedgers(list) {
			fine := isWhole(changed)
			if impl.ValidLedger(changed) != fine {
				t.Errorf("ValidLedger(%v) = %v", changed, !fine)
			}
			if fine {
				valid++
			}
		}
	}
	if valid < 100 {
		t.Errorf("only %d changed ledgers are valid", valid)
	}
}

func TestShareOf(t *testing.T) {
	for _, list := range someLedgers() {
		for _, owner := range []int{0, -1, 1000, greatestInt, leastInt} {
			if share := impl.ShareOf(list, owner); share != frac(0, 1) {
				t.Errorf("ShareOf(%v, %d) = %v", list, owner, share)
			}
		}
	}
	for _, list := range badLedgers() {
		for _, owner := range []int{0, 1, 2, 3, 500, 999, -1} {
			if share := impl.ShareOf(list, owner); share != frac(0, 0) {
				t.Errorf("ShareOf(%v, %d) = %v", list, owner, share)
			}
		}
	}
}

func TestSellShare(t *testing.T) {
	sold := 0
	for _, list := range someLedgers() {
		for _, from := range someOwners(list) {
			for _, to := range someOwners(list) {
				for _, part := range someParts(list) {
					got, ok := impl.SellShare(list, from, to, part)
					want, fine := poolSale(list, from, to, part)
					if ok != fine || !fine && len(got) != 0 || fine && !sameLedger(got, want) {
						t.Fatalf("SellShare(%v, %d, %d, %v) = %v, %v", list, from, to, part, got, ok)
					}
					if ok {
						sold++
					}
				}
			}
		}
	}
	if sold < 1000 {
		t.Errorf("only %d sales", sold)
	}
}

func TestSharesThatAreSoldAsAWhole(t *testing.T) {
	l := []impl.Holding{hold(1, 1, 2), hold(3, 1, 3), hold(7, 1, 6)}
	got, ok := impl.SellShare(l, 1, 3, frac(1, 2))
	checkLedger(t, "SellShare to an owner", got, ok, []impl.Holding{hold(3, 5, 6), hold(7, 1, 6)}, true)
	got, ok = impl.SellShare(l, 7, 2, frac(1, 6))
	checkLedger(t, "SellShare to a new owner", got, ok, []impl.Holding{hold(1, 1, 2), hold(2, 1, 6), hold(3, 1, 3)}, true)
	got, ok = impl.SellShare(l, 3, 999, frac(1, 3))
	checkLedger(t, "SellShare to the last owner", got, ok, []impl.Holding{hold(1, 1, 2), hold(7, 1, 6), hold(999, 1, 3)}, true)
	got, ok = impl.SellShare([]impl.Holding{hold(4, 1, 1)}, 4, 5, one())
	checkLedger(t, "SellShare of the whole", got, ok, []impl.Holding{hold(5, 1, 1)}, true)
	got, ok = impl.SellShare(l, 1, 3, frac(1, 3))
	checkLedger(t, "SellShare of a part", got, ok, []impl.Holding{hold(1, 1, 6), hold(3, 2, 3), hold(7, 1, 6)}, true)
	got, ok = impl.SellShare(l, 1, 3, frac(5001, 10000))
	checkNoLedger(t, "SellShare of a little more than the share", got, ok)
}

func TestSalesAtTheLimitOfOwners(t *testing.T) {
	full := evenLedger(12, 1)
	got, ok := impl.SellShare(full, 1, 13, frac(1, 24))
	checkNoLedger(t, "SellShare to a thirteenth owner", got, ok)
	got, ok = impl.SellShare(full, 1, 13, frac(1, 12))
	checkLedger(t, "SellShare of all to a new owner", got, ok, evenLedger(12, 2), true)
	got, ok = impl.SellShare(full, 1, 12, frac(1, 24))
	if !ok || len(got) != 12 || got[0] != hold(1, 1, 24) || got[11] != hold(12, 1, 8) {
		t.Errorf("SellShare to an owner = %v, %v", got, ok)
	}
	got, ok = impl.SellShare(evenLedger(11, 1), 11, 12, frac(1, 22))
	if !ok || len(got) != 12 || got[10] != hold(11, 1, 22) || got[11] != hold(12, 1, 22) {
		t.Errorf("SellShare to a twelfth owner = %v, %v", got, ok)
	}
	got, ok = impl.SellShare([]impl.Holding{hold(1, 1, 1)}, 1, 1000, frac(1, 2))
	checkNoLedger(t, "SellShare to the owner 1000", got, ok)
	got, ok = impl.SellShare([]impl.Holding{hold(1, 1, 1)}, 1, 999, frac(1, 2))
	checkLedger(t, "SellShare to the owner 999", got, ok, []impl.Holding{hold(1, 1, 2), hold(999, 1, 2)}, true)
}

func TestDenominatorsThatGrow(t *testing.T) {
	l := []impl.Holding{hold(1, 1, 5000), hold(2, 4999, 5000)}
	got, ok := impl.SellShare(l, 1, 3, frac(1, 10000))
	checkLedger(t, "SellShare with the denominator 10000", got, ok, []impl.Holding{hold(1, 1, 10000), hold(2, 4999, 5000), hold(3, 1, 10000)}, true)
	got, ok = impl.SellShare(l, 1, 3, frac(1, 7500))
	checkNoLedger(t, "SellShare that leaves the denominator 15000", got, ok)
	got, ok = impl.SellShare(l, 2, 1, frac(1, 7500))
	checkLedger(t, "SellShare with a denominator that shrinks", got, ok, []impl.Holding{hold(1, 1, 3000), hold(2, 2999, 3000)}, true)
	got, ok = impl.SellShare(l, 2, 1, frac(1, 9999))
	checkNoLedger(t, "SellShare with no common denominator", got, ok)
	// What is left is a fraction, but not what the other owner would have.
	got, ok = impl.SellShare(swappedLedger(1, 3, 2, 4), 2, 3, frac(25, 101))
	checkNoLedger(t, "SellShare that makes the denominator 20806", got, ok)
	// Each share is a fraction, but the sum of the first two is not any more.
	got, ok = impl.SellShare(swappedLedger(1, 3, 2, 4), 2, 5, frac(50, 101))
	checkNoLedger(t, "SellShare with a sum that is no fraction", got, ok)
	got, ok = impl.SellShare([]impl.Holding{hold(1, 1, 2), hold(3, 1, 3), hold(7, 1, 6)}, 1, 3, frac(1, 10000))
	checkNoLedger(t, "SellShare to a share with another denominator", got, ok)
}

func TestOtherSales(t *testing.T) {
	l := []impl.Holding{hold(1, 1, 2), hold(3, 1, 3), hold(7, 1, 6)}
	for _, part := range append(badFracs(), frac(0, 1)) {
		got, ok := impl.SellShare(l, 1, 3, part)
		checkNoLedger(t, "SellShare of no part", got, ok)
	}
	for _, owner := range []int{0, -1, 1000, greatestInt, leastInt} {
		got, ok := impl.SellShare(l, 1, owner, frac(1, 4))
		checkNoLedger(t, "SellShare to no owner", got, ok)
		got, ok = impl.SellShare(l, owner, 1, frac(1, 6))
		checkNoLedger(t, "SellShare by no owner", got, ok)
	}
	for _, owner := range []int{1, 3, 7, 8} {
		got, ok := impl.SellShare(l, owner, owner, frac(1, 6))
		checkNoLedger(t, "SellShare to oneself", got, ok)
	}
	got, ok := impl.SellShare(l, 2, 1, frac(1, 10000))
	checkNoLedger(t, "SellShare by one who has nothing", got, ok)
	for _, list := range badLedgers() {
		for _, part := range []impl.Frac{frac(1, 2), frac(1, 13), one()} {
			got, ok := impl.SellShare(list, 1, 2, part)
			checkNoLedger(t, "SellShare of no ledger", got, ok)
		}
	}
}

func TestInheritShare(t *testing.T) {
	done := 0
	for _, list := range someLedgers() {
		for _, owner := range someOwners(list) {
			for _, heirs := range someHeirs(list) {
				got, ok := impl.InheritShare(list, owner, heirs)
				want, fine := poolHeirs(list, owner, heirs)
				if ok != fine || !fine && len(got) != 0 || fine && !sameLedger(got, want) {
					t.Fatalf("InheritShare(%v, %d, %v) = %v, %v", list, owner, heirs, got, ok)
				}
				if ok {
					done++
				}
			}
		}
	}
	if done < 500 {
		t.Errorf("only %d shares are inherited", done)
	}
}

func TestHeirsWhoAreOwners(t *testing.T) {
	l := []impl.Holding{hold(1, 1, 2), hold(3, 1, 3), hold(7, 1, 6)}
	got, ok := impl.InheritShare(l, 1, []int{3, 9})
	checkLedger(t, "InheritShare of an owner and another one", got, ok, []impl.Holding{hold(3, 7, 12), hold(7, 1, 6), hold(9, 1, 4)}, true)
	got, ok = impl.InheritShare(l, 7, []int{3, 1})
	checkLedger(t, "InheritShare of owners", got, ok, []impl.Holding{hold(1, 7, 12), hold(3, 5, 12)}, true)
	got, ok = impl.InheritShare(l, 3, []int{2, 999, 4})
	checkLedger(t, "InheritShare of others", got, ok, []impl.Holding{hold(1, 1, 2), hold(2, 1, 9), hold(4, 1, 9), hold(7, 1, 6), hold(999, 1, 9)}, true)
	got, ok = impl.InheritShare([]impl.Holding{hold(1, 1, 1)}, 1, upTo(13)[1:])
	checkLedger(t, "InheritShare of twelve heirs", got, ok, evenLedger(12, 2), true)
	got, ok = impl.InheritShare(evenLedger(12, 1), 12, upTo(11))
	checkLedger(t, "InheritShare of all other owners", got, ok, evenLedger(11, 1), true)
	got, ok = impl.InheritShare(evenLedger(11, 1), 11, []int{1, 12, 13})
	if !ok || len(got) != 12 || got[0] != hold(1, 4, 33) || got[11] != hold(13, 1, 33) {
		t.Errorf("InheritShare that makes twelve owners = %v, %v", got, ok)
	}
	got, ok = impl.InheritShare(evenLedger(11, 1), 11, []int{12, 13, 14})
	checkNoLedger(t, "InheritShare that makes thirteen owners", got, ok)
}

func TestInheritedDenominatorsThatGrow(t *testing.T) {
	l := []impl.Holding{hold(1, 1, 5000), hold(2, 4999, 5000)}
	got, ok := impl.InheritShare(l, 1, []int{2, 3})
	checkLedger(t, "InheritShare with the denominator 10000", got, ok, []impl.Holding{hold(2, 9999, 10000), hold(3, 1, 10000)}, true)
	got, ok = impl.InheritShare(l, 1, []int{2, 3, 4})
	checkNoLedger(t, "InheritShare with the denominator 15000", got, ok)
	// Each heir would have 3/10000, but a part of 1/20000 is no fraction.
	list := []impl.Holding{hold(1, 1, 4000), hold(2, 1, 4000), hold(3, 1, 4000), hold(4, 1, 4000), hold(5, 1, 5000), hold(6, 2497, 2500)}
	if !impl.ValidLedger(list) || !isWhole([]impl.Holding{hold(1, 3, 10000), hold(2, 3, 10000), hold(3, 3, 10000), hold(4, 3, 10000), hold(6, 2497, 2500)}) {
		t.Error("the ledgers before and after should be valid")
	}
	got, ok = impl.InheritShare(list, 5, []int{1, 2, 3, 4})
	checkNoLedger(t, "InheritShare of parts that are no fractions", got, ok)
	// The part is a fraction, but the Share of the heir with it is not.
	got, ok = impl.InheritShare([]impl.Holding{hold(1, 1, 202), hold(2, 50, 101), hold(3, 1, 206), hold(4, 51, 103)}, 1, []int{3})
	checkNoLedger(t, "InheritShare of a share that is no fraction", got, ok)
	got, ok = impl.InheritShare(swappedLedger(1, 3, 2, 4), 2, []int{5})
	checkNoLedger(t, "InheritShare with a sum that is no fraction", got, ok)
}

func TestOtherHeirs(t *testing.T) {
	l := []impl.Holding{hold(1, 1, 2), hold(3, 1, 3), hold(7, 1, 6)}
	many := make([]int, 100000)
	for i := range many {
		many[i] = i + 2
	}
	lists := [][]int{nil, {}, {1}, {3, 1}, {3, 3}, {9, 3, 9}, {5, 6, 6}, {0}, {-1}, {1000}, {3, 1000}, {3, 0}, {greatestInt}, {leastInt}, upTo(14)[1:], many, many[:13]}
	for _, heirs := range lists {
		got, ok := impl.InheritShare(l, 1, heirs)
		checkNoLedger(t, "InheritShare of others than heirs", got, ok)
	}
	for _, owner := range []int{0, 2, 8, 999, -1, 1000, greatestInt, leastInt} {
		got, ok := impl.InheritShare(l, owner, []int{3, 9})
		checkNoLedger(t, "InheritShare of one who has nothing", got, ok)
	}
	for _, list := range badLedgers() {
		got, ok := impl.InheritShare(list, 1, []int{2})
		checkNoLedger(t, "InheritShare of no ledger", got, ok)
		got, ok = impl.InheritShare(list, 2, []int{1, 3})
		checkNoLedger(t, "InheritShare of no ledger", got, ok)
	}
}

func TestJoinShares(t *testing.T) {
	l := []impl.Holding{hold(1, 1, 2), hold(3, 1, 3), hold(7, 1, 6)}
	got, ok := impl.JoinShares(l, 7, 3)
	checkLedger(t, "JoinShares", got, ok, []impl.Holding{hold(1, 1, 2), hold(3, 1, 2)}, true)
	got, ok = impl.JoinShares(l, 1, 999)
	checkLedger(t, "JoinShares to a new owner", got, ok, []impl.Holding{hold(3, 1, 3), hold(7, 1, 6), hold(999, 1, 2)}, true)
	got, ok = impl.JoinShares(evenLedger(12, 1), 1, 13)
	checkLedger(t, "JoinShares of twelve owners", got, ok, evenLedger(12, 2), true)
	got, ok = impl.JoinShares([]impl.Holding{hold(4, 1, 1)}, 4, 1)
	checkLedger(t, "JoinShares of the whole", got, ok, []impl.Holding{hold(1, 1, 1)}, true)
	got, ok = impl.JoinShares(swappedLedger(1, 3, 2, 4), 2, 5)
	checkNoLedger(t, "JoinShares with a sum that is no fraction", got, ok)
	got, ok = impl.JoinShares(swappedLedger(1, 3, 2, 4), 1, 3)
	checkNoLedger(t, "JoinShares with a share that is no fraction", got, ok)
}

func TestSharesThatAreNotJoined(t *testing.T) {
	l := []impl.Holding{hold(1, 1, 2), hold(3, 1, 3), hold(7, 1, 6)}
	for _, owner := range []int{0, -1, 1000, greatestInt, leastInt} {
		got, ok := impl.JoinShares(l, 1, owner)
		checkNoLedger(t, "JoinShares to no owner", got, ok)
		got, ok = impl.JoinShares(l, owner, 1)
		checkNoLedger(t, "JoinShares of no owner", got, ok)
	}
	for _, owner := range []int{1, 3, 7, 8} {
		got, ok := impl.JoinShares(l, owner, owner)
		checkNoLedger(t, "JoinShares to oneself", got, ok)
	}
	got, ok := impl.JoinShares(l, 2, 1)
	checkNoLedger(t, "JoinShares of one who has nothing", got, ok)
	for _, list := range badLedgers() {
		got, ok := impl.JoinShares(list, 1, 2)
		checkNoLedger(t, "JoinShares of no ledger", got, ok)
	}
}

func TestCommonDen(t *testing.T) {
	lists := [][]impl.Holding{
		{hold(9, 1, 1)}, {hold(1, 1, 2), hold(3, 1, 3), hold(7, 1, 6)}, {hold(1, 1, 10000), hold(999, 9999, 10000)},
		evenLedger(12, 1), {hold(1, 1, 4), hold(2, 1, 6), hold(3, 7, 12)}, swappedLedger(1, 3, 2, 4), greatDen(),
	}
	want := []int{1, 6, 10000, 12, 12, 20806, 999999}
	for i, list := range lists {
		if den := impl.CommonDen(list); den != want[i] {
			t.Errorf("CommonDen(%v) = %d", list, den)
		}
	}
	for _, list := range [][]impl.Holding{tooGreatDen(), hugeDen()} {
		if !impl.ValidLedger(list) || impl.CommonDen(list) != -1 || len(impl.UnitsOf(list)) != 0 {
			t.Errorf("CommonDen(%v) = %d", list, impl.CommonDen(list))
		}
	}
	for _, list := range badLedgers() {
		if den := impl.CommonDen(list); den != -1 {
			t.Errorf("CommonDen(%v) = %d", list, den)
		}
	}
}

func TestCommonDenIsTheLeast(t *testing.T) {
	for _, list := range someLedgers() {
		want := poolOf(list, 1).den
		if want > 1000000 {
			want = -1
		}
		if den := impl.CommonDen(list); den != want {
			t.Errorf("CommonDen(%v) = %d, not %d", list, den, want)
		}
	}
}

func TestUnitsOf(t *testing.T) {
	if units := impl.UnitsOf([]impl.Holding{hold(1, 1, 2), hold(3, 1, 3), hold(7, 1, 6)}); !isList(units, 3, 2, 1) {
		t.Errorf("UnitsOf = %v", units)
	}
	if units := impl.UnitsOf([]impl.Holding{hold(9, 1, 1)}); !isList(units, 1) {
		t.Errorf("UnitsOf = %v", units)
	}
	if units := impl.UnitsOf(swappedLedger(1, 3, 2, 4)); !isList(units, 103, 10300, 101, 10302) {
		t.Errorf("UnitsOf = %v", units)
	}
	for _, list := range badLedgers() {
		if units := impl.UnitsOf(list); len(units) != 0 {
			t.Errorf("UnitsOf(%v) = %v", list, units)
		}
	}
}

func TestValidLeases(t *testing.T) {
	valid := 0
	others := 0
	for _, c := range someLeases() {
		fine := canLend(c.list, c.leases)
		if impl.ValidLeases(c.list, c.leases) != fine {
			t.Errorf("ValidLeases(%v, %v) = %v", c.list, c.leases, !fine)
		}
		if fine {
			valid++
		} else {
			others++
		}
	}
	if valid < 200 || others < 200 {
		t.Errorf("only %d valid leases, and %d others", valid, others)
	}
	for _, c := range fewLeases() {
		if !impl.ValidLeases(c.list, c.leases) {
			t.Errorf("ValidLeases(%v, %v) = false", c.list, c.leases)
		}
	}
}

func TestLeasesThatBeginTogether(t *testing.T) {
	l := []impl.Holding{hold(1, 1, 2), hold(3, 1, 3), hold(7, 1, 6)}
	lists := [][]impl.Lease{
		{lend(1, 2, 1, 4, 5, 6), lend(1, 3, 1, 4, 5, 9)},
		{lend(1, 2, 1, 3, 5, 6), lend(1, 3, 1, 4, 5, 9)},
		{lend(1, 3, 1, 4, 5, 9), lend(1, 2, 1, 3, 5, 6)},
		{lend(1, 2, 1, 3, 5, 6), lend(1, 3, 1, 4, 6, 9)},
		{lend(1, 3, 1, 4, 6, 9), lend(1, 2, 1, 3, 5, 6)},
		{lend(1, 3, 1, 4, 6, 9), lend(1, 2, 1, 3, 5, 7)},
		{lend(1, 2, 1, 3, 5, 7), lend(1, 3, 1, 4, 6, 9)},
		{lend(1, 2, 1, 2, 5, 6), lend(3, 2, 1, 3, 5, 6), lend(7, 2, 1, 6, 5, 6)},
		{lend(1, 2, 1, 6, 5, 6), lend(1, 2, 1, 6, 5, 7), lend(1, 2, 1, 6, 5, 8)},
		{lend(1, 2, 1, 6, 5, 6), lend(1, 2, 1, 6, 5, 7), lend(1, 2, 1, 6, 5, 8), lend(1, 2, 1, 6, 5, 8)},
		{lend(1, 2, 1, 2, 0, 100), lend(1, 3, 1, 10000, 99, 100)},
		{lend(1, 2, 1, 2, 0, 99), lend(1, 3, 1, 10000, 99, 100)},
		{lend(1, 2, 1, 4, 0, 10), lend(1, 2, 1, 4, 0, 3), lend(1, 2, 1, 4, 3, 6), lend(1, 2, 1, 4, 6, 10)},
		{lend(1, 2, 1, 4, 0, 10), lend(1, 2, 1, 4, 0, 3), lend(1, 2, 1, 4, 2, 6), lend(1, 2, 1, 4, 6, 10)},
	}
	want := []bool{true, false, false, true, true, false, false, true, true, false, false, true, true, false}
	for i, leases := range lists {
		if impl.ValidLeases(l, leases) != want[i] {
			t.Errorf("ValidLeases(%v) = %v", leases, !want[i])
		}
	}
}

func TestLeasesWhoseSumsAreNoFractions(t *testing.T) {
	whole := []impl.Holding{hold(8, 1, 1)}
	a := lend(8, 1, 1, 202, 0, 5)
	b := lend(8, 2, 1, 206, 0, 5)
	c := lend(8, 3, 50, 101, 0, 5)
	lists := [][]impl.Lease{{a, c, b}, {a, b, c}, {b, a, c}, {b, c, a}, {a, b}, {a, c}, {b, c}, {c, a, b}, {a, b, lend(8, 3, 1, 1, 0, 5)}}
	want := []bool{true, false, false, false, false, true, false, true, false}
	for i, leases := range lists {
		if impl.ValidLeases(whole, leases) != want[i] || canLend(whole, leases) != want[i] {
			t.Errorf("ValidLeases(%v) = %v", leases, !want[i])
		}
	}
	later := lend(8, 2, 1, 206, 5, 6)
	if !impl.ValidLeases(whole, []impl.Lease{a, later}) {
		t.Error("leases that do not run together are not added")
	}
}

func TestOtherLeases(t *testing.T) {
	l := []impl.Holding{hold(1, 1, 2), hold(3, 1, 3), hold(7, 1, 6)}
	list := []impl.Lease{
		lend(1, 1, 1, 4, 0, 1), lend(1, 0, 1, 4, 0, 1), lend(1, -1, 1, 4, 0, 1), lend(1, 1000, 1, 4, 0, 1),
		lend(2, 1, 1, 10000, 0, 1), lend(0, 1, 1, 4, 0, 1), lend(-1, 1, 1, 4, 0, 1), lend(1000, 1, 1, 4, 0, 1), lend(greatestInt, leastInt, 1, 4, 0, 1),
		lend(1, 3, 0, 1, 0, 1), lend(1, 3, 1, 4, 1, 1), lend(1, 3, 1, 4, 2, 1), lend(1, 3, 1, 4, -1, 1), lend(1, 3, 1, 4, 0, 0),
		lend(1, 3, 1, 4, 0, 5001), lend(1, 3, 1, 4, 5000, 5001), lend(1, 3, 1, 4, 5000, 5000), lend(1, 3, 1, 4, leastInt, greatestInt),
		lend(1, 3, 1, 1, 0, 1), lend(1, 3, 5001, 10000, 0, 1),
	}
	for _, bad := range badFracs() {
		list = append(list, lend(1, 3, bad.Num, bad.Den, 0, 1))
	}
	for _, bad := range list {
		for _, leases := range [][]impl.Lease{{bad}, {lend(3, 1, 1, 6, 0, 9), bad}, {bad, lend(3, 1, 1, 6, 2, 9)}} {
			if impl.ValidLeases(l, leases) {
				t.Errorf("ValidLeases(%v) = true", leases)
			}
			users, ok := impl.UsersAt(l, leases, 4)
			checkNoLedger(t, "UsersAt", users, ok)
		}
	}
	for _, list := range badLedgers() {
		if impl.ValidLeases(list, nil) || impl.ValidLeases(list, []impl.Lease{lend(1, 3, 1, 10000, 0, 1)}) {
			t.Errorf("ValidLeases(%v) = true", list)
		}
	}
}

func TestLimitsOfLeases(t *testing.T) {
	ten := tenLeases()
	if !impl.ValidLeases(evenLedger(12, 1), ten) || impl.ValidLeases(evenLedger(12, 1), append(ten, lend(12, 1, 1, 12, 100, 101))) {
		t.Error("ten leases, and eleven")
	}
	whole := []impl.Holding{hold(999, 1, 1)}
	if !impl.ValidLeases(whole, []impl.Lease{lend(999, 1, 1, 10000, 0, 5000)}) || !impl.ValidLeases(whole, []impl.Lease{lend(999, 998, 1, 1, 4999, 5000)}) {
		t.Error("leases at the limits")
	}
	users, ok := impl.UsersAt(whole, []impl.Lease{lend(999, 1, 1, 10000, 0, 5000)}, 4999)
	checkLedger(t, "UsersAt 4999", users, ok, []impl.Holding{hold(1, 1, 10000), hold(999, 9999, 10000)}, true)
	users, ok = impl.UsersAt(whole, []impl.Lease{lend(999, 1, 1, 10000, 0, 5000)}, 5000)
	checkLedger(t, "UsersAt 5000", users, ok, whole, true)
	users, ok = impl.UsersAt(evenLedger(12, 1), append(ten, lend(12, 1, 1, 12, 100, 101)), 0)
	checkNoLedger(t, "UsersAt by eleven leases", users, ok)
}

func TestUsersAt(t *testing.T) {
	told := 0
	untold := 0
	for _, c := range someLeases() {
		valid := canLend(c.list, c.leases)
		for _, at := range []int{0, 1, 4, 5, 9, 10, 19, 20, 21, 30, 45, 5000} {
			users, ok := impl.UsersAt(c.list, c.leases, at)
			want, fine := poolUsers(c.list, c.leases, at)
			if ok != fine || !fine && len(users) != 0 || fine && !sameLedger(users, want) {
				t.Fatalf("UsersAt(%v, %v, %d) = %v, %v", c.list, c.leases, at, users, ok)
			}
			if ok {
				told++
			} else if valid {
				untold++
			}
		}
	}
	if told < 1000 || untold < 50 {
		t.Errorf("only %d users are told, and %d are not", told, untold)
	}
}

func TestOtherTimes(t *testing.T) {
	for _, c := range fewLeases() {
		for _, at := range []int{-1, 5001, leastInt, greatestInt} {
			users, ok := impl.UsersAt(c.list, c.leases, at)
			checkNoLedger(t, "UsersAt another time", users, ok)
		}
	}
	for _, list := range badLedgers() {
		users, ok := impl.UsersAt(list, nil, 0)
		checkNoLedger(t, "UsersAt by no ledger", users, ok)
	}
}

func TestLedgersBetweenLeases(t *testing.T) {
	full := evenLedger(12, 1)
	thirteen := lend(1, 13, 1, 24, 0, 9)
	twelve := lend(2, 3, 1, 12, 0, 9)
	for _, leases := range [][]impl.Lease{{thirteen, twelve}, {twelve, thirteen}} {
		users, ok := impl.UsersAt(full, leases, 5)
		if !ok || len(users) != 12 || users[0] != hold(1, 1, 24) || users[1] != hold(3, 1, 6) || users[11] != hold(13, 1, 24) {
			t.Errorf("UsersAt with thirteen users between = %v, %v", users, ok)
		}
	}
	users, ok := impl.UsersAt(full, []impl.Lease{thirteen}, 5)
	checkNoLedger(t, "UsersAt with thirteen users", users, ok)
	// After the first lease the sum of the first two shares is no fraction, and after the second one it is again.
	list := swappedLedger(1, 3, 2, 4)
	first := lend(2, 5, 50, 101, 0, 9)
	users, ok = impl.UsersAt(list, []impl.Lease{first, lend(3, 4, 1, 206, 0, 9)}, 5)
	checkLedger(t, "UsersAt with a sum between", users, ok, []impl.Holding{hold(1, 1, 202), hold(4, 1, 2), hold(5, 50, 101)}, true)
	users, ok = impl.UsersAt(list, []impl.Lease{first}, 5)
	checkNoLedger(t, "UsersAt with a sum that is no fraction", users, ok)
}

func TestSharesBetweenLeases(t *testing.T) {
	halves := []impl.Holding{hold(1, 1, 2), hold(2, 1, 2)}
	small := lend(1, 2, 1, 9999, 0, 9)
	great := lend(1, 2, 7, 18, 0, 9)
	users, ok := impl.UsersAt(halves, []impl.Lease{great, small}, 5)
	checkLedger(t, "UsersAt with shares between", users, ok, []impl.Holding{hold(1, 370, 3333), hold(2, 2963, 3333)}, true)
	if !impl.ValidLeases(halves, []impl.Lease{small, great}) {
		t.Error("the other order of these leases is valid, too")
	}
	users, ok = impl.UsersAt(halves, []impl.Lease{small, great}, 5)
	checkNoLedger(t, "UsersAt with a share between that is no fraction", users, ok)
	// The tenant gets what is lent on before the own share is lent: nothing is left in between, and all comes back.
	ring := []impl.Lease{lend(1, 2, 1, 2, 0, 9), lend(2, 1, 1, 2, 0, 9)}
	users, ok = impl.UsersAt(halves, ring, 5)
	checkLedger(t, "UsersAt in a ring", users, ok, halves, true)
}

func TestFormatLedger(t *testing.T) {
	lists := [][]impl.Holding{{hold(1, 1, 1)}, {hold(1, 1, 2), hold(3, 1, 3), hold(7, 1, 6)}, {hold(10, 1, 10000), hold(999, 9999, 10000)}, evenLedger(3, 99)}
	want := []string{"1 1/1\n", "1 1/2\n3 1/3\n7 1/6\n", "10 1/10000\n999 9999/10000\n", "99 1/3\n100 1/3\n101 1/3\n"}
	for i, list := range lists {
		if text := impl.FormatLedger(list); text != want[i] {
			t.Errorf("FormatLedger(%v) = %q", list, text)
		}
		back, ok := impl.ParseLedger(want[i])
		checkLedger(t, "ParseLedger", back, ok, list, true)
	}
	for _, list := range badLedgers() {
		if text := impl.FormatLedger(list); text != "" {
			t.Errorf("FormatLedger(%v) = %q", list, text)
		}
	}
}

func TestParseLedgerOfOtherTexts(t *testing.T) {
	lines := ""
	for range 13 {
		lines = lines + "1 1/13\n"
	}
	long := "1"
	for range 2000 {
		long = long + "0000000000"
	}
	list := []string{
		"", "\n", " ", " \n", "1", "1\n", "1 \n", "1/1\n", " 1/1\n", "1 1/1", "1 1/1\n\n", "\n1 1/1\n", "1 1/1\r\n", "1 1/1\r", "1 1/1 \n", " 1 1/1\n", "1  1/1\n", "1\t1/1\n", "1 1/1\n ",
		"0 1/1\n", "-1 1/1\n", "+1 1/1\n", "01 1/1\n", "1000 1/1\n", "a 1/1\n", "1 1\n", "1 2/2\n", "1 1/1/1\n", "1 01/1\n", "1 1/01\n", "1 0/1\n", "1 -1/-1\n", "1 1/0\n", "1 1/1,2 1/1\n", "1 1 1/1\n",
		"1 1/2\n", "1 1/2\n3 1/2", "3 1/2\n1 1/2\n", "1 1/2\n1 1/2\n", "1 1/2\n\n3 1/2\n", "1 1/2 3 1/2\n", "1 1/2\n2 0/1\n3 1/2\n", "1 1/1\n2 0/1\n", "1 1/1\n2 1/1\n", "1 2/4\n2 1/2\n",
		"1 1/202\n2 1/206\n3 50/101\n4 51/103\n", "1 1/20000\n2 19999/20000\n", "18446744073709551617 1/1\n", "1 18446744073709551617/1\n",
		long, long + "\n", long + " 1/1\n", "1 " + long + "\n", "1 1/" + long + "\n", "1 " + long + "/1\n", lines, lines + lines + lines, "1 1/1\n\x00", "\x001 1/1\n", "१ 1/1\n",
	}
	for _, s := range list {
		got, ok := impl.ParseLedger(s)
		if ok || len(got) != 0 {
			t.Errorf("ParseLedger(%q) = %v, %v", s, got, ok)
		}
	}
}

func TestTextsOfThirteenOwners(t *testing.T) {
	text := ""
	for _, h := range evenLedger(13, 10) {
		text = text + "1" + string(rune('0'+h.Owner-10)) + " 1/13\n"
	}
	got, ok := impl.ParseLedger(text)
	checkNoLedger(t, "ParseLedger of thirteen owners", got, ok)
	got, ok = impl.ParseLedger(impl.FormatLedger(evenLedger(12, 10)))
	checkLedger(t, "ParseLedger of twelve owners", got, ok, evenLedger(12, 10), true)
	huge := make([]byte, 1000000)
	for i := range huge {
		huge[i] = '\n'
	}
	got, ok = impl.ParseLedger(string(huge))
	checkNoLedger(t, "ParseLedger of many lines", got, ok)
	got, ok = impl.ParseLedger(impl.FormatLedger(evenLedger(12, 10)) + string(huge))
	checkNoLedger(t, "ParseLedger of many lines after twelve owners", got, ok)
}

func TestRunDeeds(t *testing.T) {
	l := []impl.Holding{hold(1, 1, 2), hold(3, 1, 3), hold(7, 1, 6)}
	got, ok := impl.RunDeeds(l, nil)
	checkLedger(t, "RunDeeds without deeds", got, ok, l, true)
	got, ok = impl.RunDeeds(l, []impl.Deed{sell(1, 2, 1, 4), join(2, 3)})
	checkLedger(t, "RunDeeds", got, ok, []impl.Holding{hold(1, 1, 4), hold(3, 7, 12), hold(7, 1, 6)}, true)
	got, ok = impl.RunDeeds(l, []impl.Deed{inherit(1, 3, 9), sell(9, 1, 1, 4), join(1, 9)})
	checkLedger(t, "RunDeeds of all kinds", got, ok, []impl.Holding{hold(3, 7, 12), hold(7, 1, 6), hold(9, 1, 4)}, true)
	got, ok = impl.RunDeeds(l, []impl.Deed{join(2, 3), sell(1, 2, 1, 4)})
	checkNoLedger(t, "RunDeeds in an order that cannot be", got, ok)
	got, ok = impl.RunDeeds(l, []impl.Deed{sell(1, 2, 1, 4), sell(1, 2, 1, 4), sell(1, 2, 1, 10000)})
	checkNoLedger(t, "RunDeeds with more than there is", got, ok)
	got, ok = impl.RunDeeds(l, []impl.Deed{inherit(1), sell(3, 2, 1, 3)})
	checkNoLedger(t, "RunDeeds without heirs", got, ok)
	for _, kind := range []int{-1, 3, 4, greatestInt, leastInt} {
		got, ok = impl.RunDeeds(l, []impl.Deed{{Kind: kind, Owner: 1, Other: 2, Part: frac(1, 4), Heirs: []int{3}}})
		checkNoLedger(t, "RunDeeds of another kind", got, ok)
	}
}

func TestDeedsLookOnlyAtTheirOwn(t *testing.T) {
	l := []impl.Holding{hold(1, 1, 2), hold(3, 1, 3), hold(7, 1, 6)}
	deeds := []impl.Deed{
		{Kind: impl.DeSell, Owner: 1, Other: 2, Part: frac(1, 4), Heirs: make([]int, 1000)},
		{Kind: impl.DeInherit, Owner: 2, Other: -7, Part: frac(7, 0), Heirs: []int{4}},
		{Kind: impl.DeJoin, Owner: 4, Other: 3, Part: frac(-1, -1), Heirs: []int{4, 4}},
	}
	got, ok := impl.RunDeeds(l, deeds)
	checkLedger(t, "RunDeeds", got, ok, []impl.Holding{hold(1, 1, 4), hold(3, 7, 12), hold(7, 1, 6)}, true)
}

func TestLimitOfDeeds(t *testing.T) {
	l := []impl.Holding{hold(1, 1, 2), hold(3, 1, 3), hold(7, 1, 6)}
	deeds := []impl.Deed{}
	for range 10 {
		deeds = append(deeds, join(1, 2), join(2, 1))
	}
	got, ok := impl.RunDeeds(l, deeds)
	checkLedger(t, "RunDeeds of 20 deeds", got, ok, l, true)
	got, ok = impl.RunDeeds(l, append(deeds, join(1, 2)))
	checkNoLedger(t, "RunDeeds of 21 deeds", got, ok)
	for _, list := range badLedgers() {
		got, ok := impl.RunDeeds(list, nil)
		checkNoLedger(t, "RunDeeds of no ledger", got, ok)
		got, ok = impl.RunDeeds(list, []impl.Deed{join(1, 2)})
		checkNoLedger(t, "RunDeeds of no ledger", got, ok)
	}
}

// spoilLedger writes over a ledger, and into spare memory behind it.
func spoilLedger(list []impl.Holding, ok bool) {
	for i := range list {
		list[i] = hold(-99, -99, -99)
	}
	longer := append(list, hold(-99, -99, -99), hold(-99, -99, -99))
	longer[0] = hold(-99, -99, -99)
}

func TestLedgersAreNewMemory(t *testing.T) {
	store := append(evenLedger(4, 1), hold(77, 1, 77), hold(78, 1, 78))
	list := store[:4]
	heirs := append([]int{2, 9}, 77)
	leases := []impl.Lease{lend(1, 2, 1, 4, 0, 9), lend(3, 9, 1, 8, 2, 9)}
	deeds := []impl.Deed{inherit(1, heirs[:2]...), sell(2, 5, 1, 8), join(3, 4)}
	spoilLedger(impl.SellShare(list, 4, 9, frac(1, 8)))
	spoilLedger(impl.SellShare(list, 4, 2, frac(1, 4)))
	spoilLedger(impl.InheritShare(list, 1, heirs[:2]))
	spoilLedger(impl.JoinShares(list, 1, 4))
	spoilLedger(impl.UsersAt(list, leases, 10))
	spoilLedger(impl.UsersAt(list, leases, 5))
	spoilLedger(impl.RunDeeds(list, nil))
	spoilLedger(impl.RunDeeds(list, deeds))
	spoil(impl.UnitsOf(list))
	if !sameLedger(store, append(evenLedger(4, 1), hold(77, 1, 77), hold(78, 1, 78))) || !isList(heirs, 2, 9, 77) {
		t.Errorf("arguments were written to: %v, %v", store, heirs)
	}
	if leases[0] != lend(1, 2, 1, 4, 0, 9) || leases[1] != lend(3, 9, 1, 8, 2, 9) || !isList(deeds[0].Heirs, 2, 9) || deeds[2].Other != 4 {
		t.Errorf("arguments were written to: %v, %v", leases, deeds)
	}
	first, ok := impl.RunDeeds(list, deeds)
	spoilLedger(impl.RunDeeds(list, deeds))
	checkLedger(t, "RunDeeds", first, ok, []impl.Holding{hold(2, 1, 4), hold(4, 1, 2), hold(5, 1, 8), hold(9, 1, 8)}, true)
}
