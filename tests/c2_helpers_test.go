package tests

import (
	"testing"

	"loop.example/watershares/impl"
)

// dice gives numbers without a pattern, the same ones in each run.
type dice struct {
	seed int
}

// roll returns a number of at least 0 that is less than n.
func (d *dice) roll(n int) int {
	d.seed = (d.seed*1103515245 + 12345) % 2147483648
	return d.seed / 65536 % n
}

// hold returns a holding.
func hold(owner int, n int, d int) impl.Holding {
	return impl.Holding{Owner: owner, Share: frac(n, d)}
}

// lend returns a lease.
func lend(owner int, tenant int, n int, d int, from int, to int) impl.Lease {
	return impl.Lease{Owner: owner, Tenant: tenant, Part: frac(n, d), From: from, To: to}
}

// sell returns the deed that a part is sold.
func sell(owner int, other int, n int, d int) impl.Deed {
	return impl.Deed{Kind: impl.DeSell, Owner: owner, Other: other, Part: frac(n, d)}
}

// inherit returns the deed that a share is inherited.
func inherit(owner int, heirs ...int) impl.Deed {
	return impl.Deed{Kind: impl.DeInherit, Owner: owner, Heirs: heirs}
}

// join returns the deed that a share goes to another owner as a whole.
func join(owner int, other int) impl.Deed {
	return impl.Deed{Kind: impl.DeJoin, Owner: owner, Other: other}
}

// sameLedger reports whether two ledgers have the same holdings.
func sameLedger(a []impl.Holding, b []impl.Holding) bool {
	if len(a) != len(b) {
		return false
	}
	for i := range a {
		if a[i] != b[i] {
			return false
		}
	}
	return true
}

// copyLedger returns a copy of a ledger.
func copyLedger(list []impl.Holding) []impl.Holding {
	return append([]impl.Holding{}, list...)
}

// withoutHolding returns a ledger without one of its holdings.
func withoutHolding(list []impl.Holding, at int) []impl.Holding {
	return append(copyLedger(list[:at]), list[at+1:]...)
}

// withoutLease returns leases without one of them.
func withoutLease(list []impl.Lease, at int) []impl.Lease {
	return append(append([]impl.Lease{}, list[:at]...), list[at+1:]...)
}

// hasHolding reports whether an owner has a holding in a ledger.
func hasHolding(list []impl.Holding, owner int) bool {
	for _, h := range list {
		if h.Owner == owner {
			return true
		}
	}
	return false
}

// checkLedger checks a ledger, or that there is none, against the one that is expected.
func checkLedger(t *testing.T, name string, got []impl.Holding, ok bool, want []impl.Holding, fine bool) {
	t.Helper()
	if !fine {
		want = nil
	}
	if ok != fine || !sameLedger(got, want) {
		t.Errorf("%s = %v, %v, not %v, %v", name, got, ok, want, fine)
	}
}

// checkNoLedger checks that there is no ledger.
func checkNoLedger(t *testing.T, name string, got []impl.Holding, ok bool) {
	t.Helper()
	checkLedger(t, name, got, ok, nil, false)
}

// evenLedger returns the ledger of owners from first on, who all have the same share.
func evenLedger(owners int, first int) []impl.Holding {
	list := []impl.Holding{}
	for i := range owners {
		list = append(list, hold(first+i, 1, owners))
	}
	return list
}

// madeLedger returns a ledger whose holders are cut off at places without a pattern.
func madeLedger(d *dice, den int) []impl.Holding {
	holders := 1 + d.roll(min(12, den))
	list := []impl.Holding{}
	owner := 0
	cut := 0
	for i := range holders {
		// Each holder after this one needs a unit, too.
		units := den - cut
		if i < holders-1 {
			units = 1 + d.roll(min(2*den/holders, den-cut-(holders-1-i)))
		}
		cut += units
		owner += 1 + d.roll(80)
		list = append(list, impl.Holding{Owner: owner, Share: lowest(units, den)})
	}
	return list
}

// swappedLedger returns four holdings, by the numbers of their owners; the sum of the shares of the owners a and b has the denominator 10403.
func swappedLedger(a int, b int, c int, d int) []impl.Holding {
	return sorted([]impl.Holding{hold(a, 1, 202), hold(b, 1, 206), hold(c, 50, 101), hold(d, 51, 103)})
}

// sorted returns holdings by the numbers of their owners.
func sorted(list []impl.Holding) []impl.Holding {
	after := []impl.Holding{}
	for _, h := range list {
		at := 0
		for at < len(after) && after[at].Owner < h.Owner {
			at++
		}
		later := copyLedger(after[at:])
		after = append(append(after[:at], h), later...)
	}
	return after
}

// greatDen returns the ledger with the greatest common denominator of all that can be told: 999999.
func greatDen() []impl.Holding {
	// The sums of the first ones have the denominators 999, 189, 77 and 1001, which have the common multiple 999999.
	return sumsLedger([]impl.Frac{frac(100, 999), frac(55, 189), frac(38, 77), frac(800, 1001), one()})
}

// tooGreatDen returns a valid ledger whose common denominator, 1000004, is the least one that cannot be told.
func tooGreatDen() []impl.Holding {
	return sumsLedger([]impl.Frac{frac(100, 2809), frac(1, 2), frac(301, 356), one()})
}

// hugeDen returns a valid ledger whose common denominator is 97*101*89*103.
func hugeDen() []impl.Holding {
	return sumsLedger([]impl.Frac{frac(10, 97), frac(30, 101), frac(50, 89), frac(80, 103), one()})
}

// sumsLedger returns the ledger of which the sums of the first shares are told.
func sumsLedger(sums []impl.Frac) []impl.Holding {
	list := []impl.Holding{}
	before := frac(0, 1)
	for i, sum := range sums {
		share := lowest(sum.Num*before.Den-before.Num*sum.Den, sum.Den*before.Den)
		list = append(list, impl.Holding{Owner: 3*i + 2, Share: share})
		before = sum
	}
	return list
}

// fewLedgers returns valid ledgers made by hand, those at the limits among them.
func fewLedgers() [][]impl.Holding {
	return [][]impl.Holding{
		{hold(1, 1, 1)}, {hold(999, 1, 1)}, {hold(500, 1, 1)},
		{hold(1, 1, 2), hold(3, 1, 3), hold(7, 1, 6)},
		{hold(1, 1, 2), hold(2, 1, 2)}, {hold(998, 1, 3), hold(999, 2, 3)},
		{hold(1, 1, 10000), hold(999, 9999, 10000)}, {hold(5, 9998, 9999), hold(6, 1, 9999)},
		{hold(4, 1, 5000), hold(5, 4999, 5000)}, {hold(1, 1, 9973), hold(2, 9972, 9973)},
		evenLedger(2, 1), evenLedger(7, 3), evenLedger(11, 5), evenLedger(12, 1), evenLedger(12, 988),
		swappedLedger(1, 3, 2, 4), swappedLedger(11, 40, 22, 77),
		greatDen(), tooGreatDen(), hugeDen(),
	}
}

// someLedgers returns valid ledgers of many kinds.
func someLedgers() [][]impl.Holding {
	lists := fewLedgers()
	d := &dice{seed: 3}
	for _, den := range []int{2, 3, 5, 12, 24, 60, 97, 100, 360, 840, 2310, 5040, 9240, 9973, 9999, 10000} {
		for range 3 {
			lists = append(lists, madeLedger(d, den))
		}
	}
	return lists
}

// badLedgers returns ledgers that are not valid.
func badLedgers() [][]impl.Holding {
	lists := [][]impl.Holding{
		nil, {},
		{hold(0, 1, 1)}, {hold(-1, 1, 1)}, {hold(1000, 1, 1)}, {hold(greatestInt, 1, 1)}, {hold(leastInt, 1, 1)},
		{hold(0, 1, 2), hold(1, 1, 2)}, {hold(1, 1, 2), hold(1000, 1, 2)}, {hold(-5, 1, 2), hold(5, 1, 2)},
		{hold(1, 1, 2), hold(1, 1, 2)}, {hold(3, 1, 2), hold(1, 1, 2)}, {hold(1, 1, 3), hold(3, 1, 3), hold(2, 1, 3)}, {hold(1, 1, 4), hold(2, 1, 4), hold(2, 1, 2)},
		{hold(1, 1, 2)}, {hold(1, 9999, 10000)}, {hold(1, 1, 2), hold(2, 1, 3)}, {hold(1, 1, 2), hold(2, 4999, 10000)},
		{hold(1, 2, 3), hold(2, 2, 3)}, {hold(1, 1, 1), hold(2, 1, 1)}, {hold(1, 1, 1), hold(2, 1, 10000)}, {hold(1, 1, 2), hold(2, 1, 2), hold(3, 1, 2)},
		{hold(1, 0, 1), hold(2, 1, 1)}, {hold(1, 1, 1), hold(2, 0, 1)}, {hold(1, 0, 1)}, {hold(1, 1, 2), hold(2, 0, 1), hold(3, 1, 2)},
		{hold(1, 2, 2)}, {hold(1, 2, 4), hold(2, 1, 2)}, {hold(1, 1, 2), hold(2, 2, 4)}, {hold(1, 0, 0)}, {hold(1, 1, 0)}, {hold(1, 1, 1), hold(2, 0, 0)},
		{hold(1, 3, 2), hold(2, -1, 2)}, {hold(1, -1, 2), hold(2, 3, 2)}, {hold(1, -1, -1)}, {hold(1, greatestInt, greatestInt)},
		{hold(1, 1, 10001), hold(2, 10000, 10001)}, {hold(1, 1, 20000), hold(2, 19999, 20000)},
		swappedLedger(1, 2, 3, 4), swappedLedger(5, 4, 7, 9), swappedLedger(3, 4, 1, 2),
		evenLedger(13, 1), evenLedger(16, 900), evenLedger(100, 1), evenLedger(12, 989), evenLedger(12, 0),
	}
	return lists
}

// euclid returns the greatest common divisor of a number of at least 0 and one of at least 1.
func euclid(a int, b int) int {
	if a == 0 {
		return b
	}
	return euclid(b%a, a)
}

// lowest returns n divided by d in lowest terms, whatever the limits of fractions.
func lowest(n int, d int) impl.Frac {
	k := euclid(n, d)
	return frac(n/k, d/k)
}

// isGoodPart reports whether a fraction is valid and greater than 0, told without the program.
func isGoodPart(f impl.Frac) bool {
	return f.Num >= 1 && f.Num <= f.Den && f.Den <= 10000 && euclid(f.Num, f.Den) == 1
}

// isGoodOwner reports whether a number is one of an owner, told without the program.
func isGoodOwner(n int) bool {
	return n >= 1 && n <= 999
}

// pool is the water of a ledger in units of one denominator, by the numbers of the owners: sums in it need no fractions.
type pool struct {
	den   int
	units [1000]int
}

// poolOf returns the pool of holdings, in which units can be divided by some number, too.
func poolOf(list []impl.Holding, by int) pool {
	p := pool{den: by}
	for _, h := range list {
		p.den = p.den / euclid(p.den, h.Share.Den) * h.Share.Den
	}
	for _, h := range list {
		p.units[h.Owner] += p.unitsIn(h.Share)
	}
	return p
}

// unitsIn returns how many units of the pool a fraction is.
func (p pool) unitsIn(f impl.Frac) int {
	return p.den / f.Den * f.Num
}

// fits reports whether so many units are a fraction with a denominator that is not too great.
func (p pool) fits(units int) bool {
	return lowest(units, p.den).Den <= 10000
}

// ledger returns the ledger of the pool, and whether it is valid.
func (p pool) ledger() ([]impl.Holding, bool) {
	list := []impl.Holding{}
	sum := 0
	fine := true
	for owner, units := range p.units {
		if units == 0 {
			continue
		}
		sum += units
		fine = fine && p.fits(units) && p.fits(sum)
		list = append(list, impl.Holding{Owner: owner, Share: lowest(units, p.den)})
	}
	return list, fine && sum == p.den && len(list) <= 12
}

// isWhole reports whether a ledger is valid, told by a pool.
func isWhole(list []impl.Holding) bool {
	if len(list) > 12 {
		return false
	}
	last := 0
	for _, h := range list {
		if h.Owner <= last || !isGoodOwner(h.Owner) || !isGoodPart(h.Share) {
			return false
		}
		last = h.Owner
	}
	_, ok := poolOf(list, 1).ledger()
	return ok
}

// poolSale returns what SellShare should return, told by a pool.
func poolSale(list []impl.Holding, from int, to int, part impl.Frac) ([]impl.Holding, bool) {
	if !isWhole(list) || !isGoodOwner(from) || !isGoodOwner(to) || from == to || !isGoodPart(part) {
		return nil, false
	}
	p := poolOf(list, part.Den)
	units := p.unitsIn(part)
	if p.units[from] < units {
		return nil, false
	}
	p.units[from] -= units
	p.units[to] += units
	return p.ledger()
}

// poolHeirs returns what InheritShare should return, told by a pool.
func poolHeirs(list []impl.Holding, owner int, heirs []int) ([]impl.Holding, bool) {
	if !isWhole(list) || !hasHolding(list, owner) || len(heirs) < 1 || len(heirs) > 12 {
		return nil, false
	}
	p := poolOf(list, 1)
	p = poolOf(list, p.den*len(heirs))
	units := p.units[owner] / len(heirs)
	p.units[owner] = 0
	for i, heir := range heirs {
		if !isGoodOwner(heir) || heir == owner {
			return nil, false
		}
		for _, other := range heirs[:i] {
			if other == heir {
				return nil, false
			}
		}
		p.units[heir] += units
	}
	after, ok := p.ledger()
	return after, ok && p.fits(units)
}

// isRunning reports whether a lease runs at a time.
func isRunning(l impl.Lease, t int) bool {
	return t >= l.From && t <= l.To-1
}

// isGoodLease reports whether a lease alone can be, told without the program.
func isGoodLease(l impl.Lease) bool {
	return isGoodOwner(l.Owner) && isGoodOwner(l.Tenant) && l.Owner != l.Tenant && isGoodPart(l.Part) && l.From >= 0 && l.From < l.To && l.To <= 5000
}

// leasePool returns the pool of a ledger in which the parts of leases are whole units.
func leasePool(list []impl.Holding, leases []impl.Lease) pool {
	by := 1
	for _, l := range leases {
		by = by / euclid(by, l.Part.Den) * l.Part.Den
	}
	return poolOf(list, by)
}

// lendsWithin reports whether an owner lends no more than the share at a time, by sums that are all fractions.
func (p pool) lendsWithin(leases []impl.Lease, owner int, t int) bool {
	sum := 0
	for _, l := range leases {
		if l.Owner == owner && isRunning(l, t) {
			sum += p.unitsIn(l.Part)
			if sum > p.units[owner] || !p.fits(sum) {
				return false
			}
		}
	}
	return true
}

// canLend reports whether leases are valid, told by a pool.
func canLend(list []impl.Holding, leases []impl.Lease) bool {
	if !isWhole(list) || len(leases) > 10 {
		return false
	}
	for _, l := range leases {
		if !isGoodLease(l) {
			return false
		}
	}
	p := leasePool(list, leases)
	for _, l := range leases {
		if !p.lendsWithin(leases, l.Owner, l.From) {
			return false
		}
	}
	return true
}

// poolUsers returns what UsersAt should return, told by a pool.
func poolUsers(list []impl.Holding, leases []impl.Lease, t int) ([]impl.Holding, bool) {
	if t < 0 || t > 5000 || !canLend(list, leases) {
		return nil, false
	}
	p := leasePool(list, leases)
	for _, l := range leases {
		if !isRunning(l, t) {
			continue
		}
		units := p.unitsIn(l.Part)
		p.units[l.Owner] -= units
		p.units[l.Tenant] += units
		if p.units[l.Owner] < 0 || !p.fits(p.units[l.Owner]) || !p.fits(p.units[l.Tenant]) {
			return nil, false
		}
	}
	return p.ledger()
}

// someParts returns parts for sales of a ledger: whole shares, pieces of them, and others.
func someParts(list []impl.Holding) []impl.Frac {
	parts := []impl.Frac{frac(1, 10000), frac(1, 7), one()}
	for i, h := range list {
		for _, k := range []int{1, 2 + i%3} {
			part := lowest(h.Share.Num, h.Share.Den*k)
			if part.Den <= 10000 {
				parts = append(parts, part)
			}
		}
	}
	return parts
}

// someOwners returns the owners of a ledger, some others, and numbers that are no owners.
func someOwners(list []impl.Holding) []int {
	owners := []int{1, 501, 999, 1000}
	for _, h := range list {
		owners = append(owners, h.Owner)
	}
	return owners
}

// someHeirs returns lists of heirs for a ledger: owners, others, and both.
func someHeirs(list []impl.Holding) [][]int {
	lists := [][]int{{999}, {1}, {500, 4}, {600, 601, 602}, {7, 2, 9, 300, 12}, upTo(12), upTo(11)}
	owners := []int{}
	for _, h := range list {
		owners = append(owners, h.Owner)
		lists = append(lists, []int{h.Owner}, copyOf(owners), append(copyOf(owners), 997))
	}
	if len(owners) > 2 {
		lists = append(lists, owners[1:], owners[2:], reversed(owners[1:]))
	}
	return lists
}

// upTo returns the numbers from 1 up to n.
func upTo(n int) []int {
	list := []int{}
	for i := range n {
		list = append(list, i+1)
	}
	return list
}

// madeLeases returns leases of a ledger without a pattern; they begin at few times, so that many of them do together.
func madeLeases(d *dice, list []impl.Holding) []impl.Lease {
	leases := []impl.Lease{}
	for range d.roll(11) {
		h := list[d.roll(len(list))]
		tenant := 1 + d.roll(999)
		if d.roll(2) == 0 {
			tenant = list[d.roll(len(list))].Owner
		}
		part := lowest(h.Share.Num, h.Share.Den*(1+d.roll(3)))
		from := 10 * d.roll(4)
		leases = append(leases, impl.Lease{Owner: h.Owner, Tenant: tenant, Part: part, From: from, To: from + 1 + d.roll(30)})
	}
	return leases
}

// leaseCase is a ledger with leases.
type leaseCase struct {
	list   []impl.Holding
	leases []impl.Lease
}

// someLeases returns ledgers with leases without a pattern, valid ones and others.
func someLeases() []leaseCase {
	cases := fewLeases()
	d := &dice{seed: 11}
	for _, list := range someLedgers() {
		if poolOf(list, 1).den > 1000000 {
			continue
		}
		for range 40 {
			cases = append(cases, leaseCase{list: list, leases: madeLeases(d, list)})
		}
	}
	return cases
}

// fewLeases returns ledgers with valid leases made by hand, those at the limits among them.
func fewLeases() []leaseCase {
	half := []impl.Holding{hold(1, 1, 2), hold(3, 1, 3), hold(7, 1, 6)}
	whole := []impl.Holding{hold(8, 1, 1)}
	return []leaseCase{
		{half, nil}, {whole, nil},
		{half, []impl.Lease{lend(1, 3, 1, 4, 0, 10), lend(1, 9, 1, 4, 5, 20)}},
		{half, []impl.Lease{lend(1, 3, 1, 2, 0, 10), lend(1, 9, 1, 2, 10, 20), lend(1, 7, 1, 2, 20, 21)}},
		{half, []impl.Lease{lend(1, 2, 1, 4, 5, 6), lend(1, 2, 1, 4, 5, 9), lend(3, 2, 1, 3, 5, 7)}},
		{half, []impl.Lease{lend(7, 999, 1, 6, 0, 5000)}}, {half, []impl.Lease{lend(7, 1, 1, 6, 4999, 5000)}},
		{half, []impl.Lease{lend(1, 3, 1, 2, 0, 9), lend(3, 7, 1, 3, 0, 9), lend(7, 1, 1, 6, 0, 9)}},
		{whole, []impl.Lease{lend(8, 1, 1, 202, 0, 5), lend(8, 2, 50, 101, 0, 5), lend(8, 3, 1, 206, 0, 5)}},
		{whole, []impl.Lease{lend(8, 9, 1, 1, 3, 4)}},
		{evenLedger(12, 1), tenLeases()},
	}
}

// tenLeases returns as many leases as there may be.
func tenLeases() []impl.Lease {
	leases := []impl.Lease{}
	for i := range 10 {
		leases = append(leases, lend(i+1, i+2, 1, 12, i, i+3))
	}
	return leases
}
