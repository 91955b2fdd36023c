package tests

import (
	"testing"

	"loop.example/watershares/impl"
)

// checkWhole checks that the shares of a ledger are 1 together.
func checkWhole(t *testing.T, list []impl.Holding) {
	t.Helper()
	sum := frac(0, 1)
	for _, h := range list {
		next, ok := impl.AddFrac(sum, h.Share)
		if !ok {
			t.Fatalf("the shares of %v have no sum", list)
		}
		sum = next
	}
	if sum != one() || !impl.ValidLedger(list) {
		t.Errorf("the shares of %v are %v", list, sum)
	}
}

// partLedger returns the holdings of a ledger whose bits are set in a number.
func partLedger(list []impl.Holding, bits int) []impl.Holding {
	part := []impl.Holding{}
	for i, h := range list {
		if bits>>i%2 == 1 {
			part = append(part, h)
		}
	}
	return part
}

func TestP18LedgersAreWhole(t *testing.T) {
	for _, list := range someLedgers() {
		checkWhole(t, list)
		for bits := 0; bits < 1<<len(list)-1; bits++ {
			if part := partLedger(list, bits); impl.ValidLedger(part) {
				t.Errorf("a part %v of %v is valid", part, list)
			}
		}
	}
}

func TestP19OwnersHaveTheirShares(t *testing.T) {
	for _, list := range someLedgers() {
		for owner := -1; owner <= 1001; owner++ {
			want := frac(0, 1)
			for _, h := range list {
				if h.Owner == owner {
					want = h.Share
				}
			}
			if share := impl.ShareOf(list, owner); share != want {
				t.Errorf("ShareOf(%v, %d) = %v", list, owner, share)
			}
		}
	}
}

// checkOthers checks that all but two owners have the same shares in two ledgers.
func checkOthers(t *testing.T, before []impl.Holding, after []impl.Holding, a int, b int) {
	t.Helper()
	for _, h := range before {
		if h.Owner != a && h.Owner != b && impl.ShareOf(after, h.Owner) != h.Share {
			t.Errorf("the share of %d is not the same in %v and %v", h.Owner, before, after)
		}
	}
	for _, h := range after {
		if h.Owner != a && h.Owner != b && !hasHolding(before, h.Owner) {
			t.Errorf("%d has nothing in %v, but in %v", h.Owner, before, after)
		}
	}
}

func TestP20WhatIsSoldCanBeBoughtBack(t *testing.T) {
	sold := 0
	for _, list := range someLedgers() {
		for _, h := range list {
			for _, to := range someOwners(list) {
				for _, part := range someParts(list) {
					after, ok := impl.SellShare(list, h.Owner, to, part)
					if !ok {
						continue
					}
					sold++
					checkOthers(t, list, after, h.Owner, to)
					back, ok := impl.SellShare(after, to, h.Owner, part)
					checkLedger(t, "SellShare back", back, ok, list, true)
				}
			}
		}
	}
	if sold < 1000 {
		t.Errorf("only %d sales", sold)
	}
}

// checkHeirs checks that each heir has as much more as each other one, all of what the owner had together.
func checkHeirs(t *testing.T, before []impl.Holding, after []impl.Holding, owner int, heirs []int) {
	t.Helper()
	part := lowest(impl.ShareOf(before, owner).Num, impl.ShareOf(before, owner).Den*len(heirs))
	for _, heir := range heirs {
		more, ok := impl.SubFrac(impl.ShareOf(after, heir), impl.ShareOf(before, heir))
		if !ok || more != part {
			t.Errorf("the heir %d of %d has %v more in %v than in %v, not %v", heir, owner, more, after, before, part)
		}
	}
	for _, h := range before {
		if h.Owner != owner && !isOneOf(h.Owner, heirs) && impl.ShareOf(after, h.Owner) != h.Share {
			t.Errorf("the share of %d is not the same in %v and %v", h.Owner, before, after)
		}
	}
	if hasHolding(after, owner) || impl.ShareOf(after, owner) != frac(0, 1) {
		t.Errorf("the owner %d still has something in %v", owner, after)
	}
}

// isOneOf reports whether a number is in a list.
func isOneOf(n int, list []int) bool {
	for _, other := range list {
		if other == n {
			return true
		}
	}
	return false
}

func TestP21HeirsGetEqualParts(t *testing.T) {
	done := 0
	for _, list := range someLedgers() {
		for _, h := range list {
			for _, heirs := range someHeirs(list) {
				after, ok := impl.InheritShare(list, h.Owner, heirs)
				if !ok {
					continue
				}
				done++
				checkHeirs(t, list, after, h.Owner, heirs)
				checkWhole(t, after)
				other, ok := impl.InheritShare(list, h.Owner, reversed(heirs))
				checkLedger(t, "InheritShare of heirs in reverse order", other, ok, after, true)
			}
		}
	}
	if done < 500 {
		t.Errorf("only %d shares are inherited", done)
	}
}

func TestP22OneHeirGetsAll(t *testing.T) {
	done := 0
	for _, list := range someLedgers() {
		for _, from := range someOwners(list) {
			for _, to := range someOwners(list) {
				after, ok := impl.InheritShare(list, from, []int{to})
				joined, fine := impl.JoinShares(list, from, to)
				checkLedger(t, "JoinShares", joined, fine, after, ok)
				sold, fine := impl.SellShare(list, from, to, impl.ShareOf(list, from))
				checkLedger(t, "SellShare of all", sold, fine, after, ok)
				want, fine := poolHeirs(list, from, []int{to})
				checkLedger(t, "InheritShare of one heir", after, ok, want, fine)
				if ok {
					done++
				}
			}
		}
	}
	if done < 500 {
		t.Errorf("only %d shares go as a whole", done)
	}
}

func TestP23SharesThatAreJoinedAreGone(t *testing.T) {
	fewer := 0
	same := 0
	for _, list := range someLedgers() {
		for _, h := range list {
			for _, to := range someOwners(list) {
				after, ok := impl.JoinShares(list, h.Owner, to)
				if !ok {
					continue
				}
				want := len(list)
				if hasHolding(list, to) {
					want--
					fewer++
				} else {
					same++
				}
				if len(after) != want || hasHolding(after, h.Owner) || !hasHolding(after, to) {
					t.Errorf("JoinShares(%v, %d, %d) = %v", list, h.Owner, to, after)
				}
			}
		}
	}
	if fewer < 200 || same < 200 {
		t.Errorf("only %d owners get more, and %d something", fewer, same)
	}
}

func TestP24UnitsAreWhole(t *testing.T) {
	told := 0
	for _, list := range someLedgers() {
		common := impl.CommonDen(list)
		units := impl.UnitsOf(list)
		if common == -1 {
			if len(units) != 0 {
				t.Errorf("UnitsOf(%v) = %v without a common denominator", list, units)
			}
			continue
		}
		told++
		if len(units) != len(list) || total(units) != common || common < 1 || common > 1000000 {
			t.Fatalf("UnitsOf(%v) = %v of %d", list, units, common)
		}
		for _, h := range list {
			if common%h.Share.Den != 0 {
				t.Errorf("CommonDen(%v) = %d", list, common)
			}
		}
	}
	if told < 50 {
		t.Errorf("only %d common denominators", told)
	}
}

func TestP25UnitsAreShares(t *testing.T) {
	for _, list := range someLedgers() {
		common := impl.CommonDen(list)
		units := impl.UnitsOf(list)
		for i, n := range units {
			if share, ok := impl.MakeFrac(n, common); !ok || share != list[i].Share {
				t.Errorf("%d of %d in %v are %v", n, common, list, share)
			}
		}
		// Units with a divisor in common would be those of a lesser denominator.
		divisor := common
		for _, n := range units {
			divisor = euclid(n, divisor)
		}
		if common != -1 && divisor != 1 {
			t.Errorf("UnitsOf(%v) = %v", list, units)
		}
	}
}

// haveSums reports whether the sums of the first leases of each owner that run together are fractions whenever one begins.
func haveSums(list []impl.Holding, leases []impl.Lease) bool {
	p := leasePool(list, leases)
	for _, begun := range leases {
		sum := 0
		for _, l := range leases {
			if l.Owner == begun.Owner && isRunning(l, begun.From) {
				sum += p.unitsIn(l.Part)
				if !p.fits(sum) {
					return false
				}
			}
		}
	}
	return true
}

func TestP26LeasesCanEndEarly(t *testing.T) {
	fewer := 0
	sums := 0
	for _, c := range someLeases() {
		if !impl.ValidLeases(c.list, c.leases) {
			continue
		}
		for i := range c.leases {
			others := withoutLease(c.leases, i)
			fine := haveSums(c.list, others)
			if impl.ValidLeases(c.list, others) != fine {
				t.Errorf("ValidLeases(%v, %v) = %v", c.list, others, !fine)
			}
			if fine {
				fewer++
			} else {
				sums++
			}
		}
	}
	if fewer < 200 || sums < 1 {
		t.Errorf("only %d leases can end early, and %d cannot", fewer, sums)
	}
}

func TestP27UsersUseTheWhole(t *testing.T) {
	used := 0
	for _, c := range someLeases() {
		if !impl.ValidLeases(c.list, c.leases) {
			continue
		}
		for _, at := range []int{0, 3, 9, 10, 15, 20, 30, 33, 4999, 5000} {
			running := 0
			for _, l := range c.leases {
				if isRunning(l, at) {
					running++
				}
			}
			users, ok := impl.UsersAt(c.list, c.leases, at)
			if running == 0 {
				checkLedger(t, "UsersAt without leases that run", users, ok, c.list, true)
			}
			if ok && running > 0 {
				used++
				checkWhole(t, users)
			}
		}
	}
	if used < 200 {
		t.Errorf("only %d ledgers of users", used)
	}
}

// salesAt returns the ledger after SellShare for each lease that runs at a time.
func salesAt(c leaseCase, at int) ([]impl.Holding, bool) {
	list := c.list
	for _, l := range c.leases {
		if !isRunning(l, at) {
			continue
		}
		next, ok := impl.SellShare(list, l.Owner, l.Tenant, l.Part)
		if !ok {
			return nil, false
		}
		list = next
	}
	return list, true
}

func TestP28ALeaseIsASaleForSomeTime(t *testing.T) {
	done := 0
	for _, c := range someLeases() {
		if !impl.ValidLeases(c.list, c.leases) {
			continue
		}
		for _, at := range []int{0, 3, 9, 10, 15, 20, 30, 33, 4999} {
			list, ok := salesAt(c, at)
			if !ok {
				continue
			}
			users, ok := impl.UsersAt(c.list, c.leases, at)
			checkLedger(t, "UsersAt", users, ok, list, true)
			if !sameLedger(list, c.list) {
				done++
			}
		}
	}
	if done < 200 {
		t.Errorf("only %d times at which leases run", done)
	}
}

func TestP29LedgersAreReadBack(t *testing.T) {
	for _, list := range someLedgers() {
		text := impl.FormatLedger(list)
		back, ok := impl.ParseLedger(text)
		checkLedger(t, "ParseLedger", back, ok, list, true)
		lines := 0
		for i := range len(text) {
			if text[i] == '\n' {
				lines++
			}
		}
		if lines != len(list) || text[len(text)-1] != '\n' {
			t.Errorf("FormatLedger(%v) = %q", list, text)
		}
	}
}

// readNumbers returns the numbers of lines of three numbers each, with a space and a stroke between them, and whether there are no others.
func readNumbers(s string) ([]int, bool) {
	numbers := []int{}
	digits := 0
	n := 0
	for i := range len(s) {
		c := s[i]
		if c >= '0' && c <= '9' {
			// A number that is 0 so far has no second digit.
			if digits > 0 && n == 0 || digits > 5 {
				return nil, false
			}
			digits++
			n = 10*n + int(c-'0')
			continue
		}
		if digits == 0 || c != " /\n"[len(numbers)%3] {
			return nil, false
		}
		numbers = append(numbers, n)
		digits = 0
		n = 0
	}
	return numbers, digits == 0 && len(numbers)%3 == 0
}

// readLedger returns what ParseLedger should return, read byte by byte.
func readLedger(s string) ([]impl.Holding, bool) {
	numbers, ok := readNumbers(s)
	if !ok {
		return nil, false
	}
	list := []impl.Holding{}
	for i := 0; i < len(numbers); i += 3 {
		list = append(list, hold(numbers[i], numbers[i+1], numbers[i+2]))
	}
	return list, isWhole(list)
}

// checkText checks that a text is read as it should be, and written back if it is read.
func checkText(t *testing.T, s string) bool {
	t.Helper()
	want, fine := readLedger(s)
	got, ok := impl.ParseLedger(s)
	if ok != fine || fine && !sameLedger(got, want) || !fine && len(got) != 0 {
		t.Errorf("ParseLedger(%q) = %v, %v", s, got, ok)
	}
	if ok && impl.FormatLedger(got) != s {
		t.Errorf("FormatLedger of ParseLedger(%q) = %q", s, impl.FormatLedger(got))
	}
	return ok
}

func TestP30LedgersAreWrittenBack(t *testing.T) {
	known := []string{"1 1/1\n", "2 1/1\n", "10 1/1\n", "11 1/1\n", "12 1/1\n", "20 1/1\n", "21 1/1\n", "22 1/1\n"}
	read := 0
	for size := 0; size <= 7; size++ {
		for _, s := range textsOf("012 /\n", size) {
			ok := checkText(t, s)
			if ok != isText(s, known) {
				t.Errorf("ParseLedger(%q) succeeds: %v", s, ok)
			}
			if ok {
				read++
			}
		}
	}
	if read != len(known) {
		t.Errorf("%d short texts are read", read)
	}
}

func TestP30ChangedTextsAreWrittenBack(t *testing.T) {
	read := 0
	marks := "0123459 /\n-"
	for _, list := range fewLedgers() {
		text := impl.FormatLedger(list)
		for i := range len(text) {
			checkText(t, text[:i])
			checkText(t, text[i:])
			checkText(t, text[:i]+text[i+1:])
			for k := range len(marks) {
				if checkText(t, text[:i]+marks[k:k+1]+text[i+1:]) {
					read++
				}
				if checkText(t, text[:i]+marks[k:k+1]+text[i:]) {
					read++
				}
			}
		}
	}
	if read < 200 {
		t.Errorf("only %d changed texts are read", read)
	}
}

// someDeeds returns deeds without a pattern, of owners and others with few numbers.
func someDeeds(d *dice) []impl.Deed {
	deeds := []impl.Deed{}
	for range d.roll(21) {
		owner := 1 + d.roll(5)
		other := 1 + d.roll(5)
		switch d.roll(4) {
		case 0:
			deeds = append(deeds, inherit(owner, other))
		case 1:
			deeds = append(deeds, inherit(owner, other, 6))
		case 2:
			deeds = append(deeds, join(owner, other))
		case 3:
			deeds = append(deeds, sell(owner, other, 1, 2+d.roll(11)))
		}
	}
	return deeds
}

// possibleDeeds returns those of the deeds that are possible one after the other, and the ledger after them.
func possibleDeeds(list []impl.Holding, deeds []impl.Deed) ([]impl.Deed, []impl.Holding) {
	possible := []impl.Deed{}
	for _, d := range deeds {
		next, ok := poolDeed(list, d)
		if ok {
			possible = append(possible, d)
			list = next
		}
	}
	return possible, list
}

// poolDeed returns what RunDeeds of one deed should return, told by a pool.
func poolDeed(list []impl.Holding, d impl.Deed) ([]impl.Holding, bool) {
	switch d.Kind {
	case impl.DeSell:
		return poolSale(list, d.Owner, d.Other, d.Part)
	case impl.DeInherit:
		return poolHeirs(list, d.Owner, d.Heirs)
	}
	return poolHeirs(list, d.Owner, []int{d.Other})
}

func TestP31DeedsFollowEachOther(t *testing.T) {
	d := &dice{seed: 29}
	start := []impl.Holding{hold(1, 1, 2), hold(2, 1, 3), hold(4, 1, 6)}
	done := 0
	for range 300 {
		deeds, want := possibleDeeds(start, someDeeds(d))
		after, ok := impl.RunDeeds(start, deeds)
		checkLedger(t, "RunDeeds", after, ok, want, true)
		checkWhole(t, after)
		for i := range len(deeds) + 1 {
			middle, ok := impl.RunDeeds(start, deeds[:i])
			again, fine := impl.RunDeeds(middle, deeds[i:])
			if !ok || !fine || !impl.ValidLedger(middle) || !sameLedger(again, after) {
				t.Errorf("RunDeeds(%v) after %d of them is %v, not %v", deeds, i, again, after)
			}
		}
		done += len(deeds)
	}
	if done < 500 {
		t.Errorf("only %d deeds", done)
	}
}

func TestP31ImpossibleDeedsEndAll(t *testing.T) {
	d := &dice{seed: 31}
	start := []impl.Holding{hold(1, 1, 2), hold(2, 1, 3), hold(4, 1, 6)}
	ended := 0
	for range 300 {
		deeds := someDeeds(d)
		possible, want := possibleDeeds(start, deeds)
		after, ok := impl.RunDeeds(start, deeds)
		checkLedger(t, "RunDeeds", after, ok, want, len(possible) == len(deeds))
		if !ok {
			ended++
		}
	}
	if ended < 100 {
		t.Errorf("only %d lists of deeds are not possible", ended)
	}
}
