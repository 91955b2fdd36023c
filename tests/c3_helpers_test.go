package tests

import (
	"testing"

	"loop.example/watershares/impl"
)

// run returns a turn.
func run(owner int, hours int) impl.Turn {
	return impl.Turn{Owner: owner, Hours: hours}
}

// sameTurns reports whether two rotations have the same turns.
func sameTurns(a []impl.Turn, b []impl.Turn) bool {
	if len(a) != len(b) {
		return false
	}
	for i := range a {
		if a[i] != b[i] {
			return false
		}
	}
	return true
}

// copyTurns returns a copy of a rotation.
func copyTurns(list []impl.Turn) []impl.Turn {
	return append([]impl.Turn{}, list...)
}

// withoutTurn returns a rotation without one of its turns.
func withoutTurn(list []impl.Turn, at int) []impl.Turn {
	return append(copyTurns(list[:at]), list[at+1:]...)
}

// equalTurns returns as many turns of the same hours, each of another owner.
func equalTurns(turns int, hours int) []impl.Turn {
	list := []impl.Turn{}
	for i := range turns {
		list = append(list, run(i+1, hours))
	}
	return list
}

// fewTurns returns valid rotations made by hand, those at the limits among them.
func fewTurns() [][]impl.Turn {
	return [][]impl.Turn{
		{run(1, 1)}, {run(999, 1)}, {run(7, 336)}, {run(3, 24)}, {run(3, 48)}, {run(3, 25)}, {run(3, 335)},
		{run(1, 3), run(2, 5), run(1, 2)}, {run(1, 12), run(2, 12)}, {run(1, 6), run(2, 14), run(3, 4)}, {run(2, 20), run(1, 4)},
		{run(1, 1), run(1, 1)}, {run(5, 2), run(5, 3), run(5, 4)}, {run(1, 1), run(2, 1), run(2, 1), run(1, 1), run(1, 2), run(2, 9)},
		{run(999, 335), run(1, 1)}, {run(1, 1), run(999, 335)}, {run(4, 1), run(9, 334), run(4, 1)},
		{run(1, 6), run(2, 1)}, {run(1, 1), run(2, 4)}, {run(1, 10), run(2, 3), run(1, 10), run(3, 2)},
		equalTurns(24, 1), equalTurns(24, 14), equalTurns(12, 28), equalTurns(7, 1), equalTurns(23, 1), equalTurns(3, 100),
	}
}

// madeTurns returns a rotation without a pattern, of few owners, so that many of them have several turns.
func madeTurns(d *dice, turns int) []impl.Turn {
	list := []impl.Turn{}
	for range turns {
		list = append(list, run(1+d.roll(1+turns/2), 1+d.roll(336/turns)))
	}
	return list
}

// someTurns returns valid rotations of many kinds.
func someTurns() [][]impl.Turn {
	lists := fewTurns()
	d := &dice{seed: 5}
	for turns := 1; turns <= 24; turns++ {
		lists = append(lists, madeTurns(d, turns), madeTurns(d, 1+turns/3))
	}
	return lists
}

// badTurns returns rotations that are not valid.
func badTurns() [][]impl.Turn {
	return [][]impl.Turn{
		nil, {}, {run(1, 0)}, {run(1, -1)}, {run(1, 337)}, {run(0, 5)}, {run(-1, 5)}, {run(1000, 5)}, {run(0, 0)},
		{run(1, 5), run(2, 0)}, {run(1, 0), run(2, 5)}, {run(1, 5), run(2, -1), run(3, 2)}, {run(1, 5), run(1000, 1)}, {run(0, 1), run(5, 1)}, {run(1, 5), run(0, 1), run(2, 3)},
		{run(1, 336), run(2, 1)}, {run(1, 168), run(2, 169)}, {run(1, 300), run(2, 36), run(3, 1)}, {run(1, 337), run(2, -1)}, {run(1, 400), run(2, -100)},
		equalTurns(25, 1), equalTurns(25, 13), equalTurns(24, 15), equalTurns(100, 1), append(equalTurns(23, 14), run(24, 15)),
		{run(1, greatestInt)}, {run(1, leastInt)}, {run(greatestInt, 1)}, {run(leastInt, 1)},
		// The sums of these overflow to the period of a day.
		{run(1, greatestInt), run(2, greatestInt), run(3, 26)}, {run(1, leastInt), run(2, leastInt), run(3, 24)}, {run(1, greatestInt), run(2, leastInt), run(3, 25)},
	}
}

// ownersOf returns the owners of a rotation, each once.
func ownersOf(list []impl.Turn) []int {
	owners := []int{}
	for _, turn := range list {
		if !isOneOf(turn.Owner, owners) {
			owners = append(owners, turn.Owner)
		}
	}
	return owners
}

// askedOwners returns the owners of a rotation, others, and numbers that are no owners.
func askedOwners(list []impl.Turn) []int {
	return append(ownersOf(list), 500, 998, 0, -1, 1000, greatestInt, leastInt)
}

// hoursFrom returns the owners of the hours from the time 0 on, turn after turn, and the time after all times as the last one.
func hoursFrom(list []impl.Turn) []int {
	owners := []int{}
	for len(owners) <= 5000 {
		for _, turn := range list {
			for range turn.Hours {
				owners = append(owners, turn.Owner)
			}
		}
	}
	return owners[:5001]
}

// nightHours tells for each time whether it is in the night, day after day: six hours, then fourteen of the day, then four.
func nightHours() []bool {
	nights := []bool{}
	for len(nights) <= 5000 {
		nights = append(nights, true, true, true, true, true, true)
		for range 14 {
			nights = append(nights, false)
		}
		nights = append(nights, true, true, true, true)
	}
	return nights[:5001]
}

// countsOf returns, for each time, how many hours of an owner there are before it, and how many of them are in the night.
func countsOf(list []impl.Turn, owner int) ([]int, []int) {
	hours := []int{0}
	nights := []int{0}
	dark := nightHours()
	for t, other := range hoursFrom(list) {
		h := hours[t]
		n := nights[t]
		if other == owner {
			h++
			if dark[t] {
				n++
			}
		}
		hours = append(hours, h)
		nights = append(nights, n)
	}
	return hours, nights
}

// periodSum returns the hours of a rotation together.
func periodSum(list []impl.Turn) int {
	sum := 0
	for _, turn := range list {
		sum += turn.Hours
	}
	return sum
}

// ownHours returns the hours of all turns of an owner together.
func ownHours(list []impl.Turn, owner int) int {
	sum := 0
	for _, turn := range list {
		if turn.Owner == owner {
			sum += turn.Hours
		}
	}
	return sum
}

// badTimes returns times that are not valid.
func badTimes() []int {
	return []int{-1, 5001, -24, 10000, greatestInt, leastInt}
}

// span is a time from which on, and one up to which, hours are counted.
type span struct {
	from int
	to   int
}

// someSpans returns spans of many lengths, at the limits, at the ends of days and elsewhere.
func someSpans() []span {
	list := []span{
		{0, 0}, {0, 1}, {0, 24}, {0, 5000}, {5000, 5000}, {4999, 5000}, {4999, 4999}, {1, 5000}, {0, 4999},
		{5, 6}, {6, 7}, {5, 7}, {19, 20}, {20, 21}, {19, 21}, {23, 24}, {24, 25}, {23, 25}, {6, 20}, {20, 30}, {0, 6}, {20, 24},
		{4800, 4824}, {4979, 4981}, {4965, 4967}, {2400, 2405}, {336, 672}, {335, 337}, {12, 12},
	}
	d := &dice{seed: 41}
	for range 40 {
		from := d.roll(5001)
		list = append(list, span{from, from + d.roll(5001-from)}, span{from, min(5000, from+d.roll(60))})
	}
	return list
}

// badSpans returns spans in which no hours are counted.
func badSpans() []span {
	return []span{
		{1, 0}, {5000, 4999}, {5000, 0}, {-1, 0}, {-1, 5}, {-2, -1}, {-1, -1}, {0, 5001}, {5000, 5001}, {5001, 5001}, {5001, 5000}, {5001, 5002},
		{0, -1}, {0, greatestInt}, {leastInt, 0}, {leastInt, greatestInt}, {greatestInt, leastInt}, {greatestInt, greatestInt}, {leastInt, leastInt},
	}
}

// checkTurns checks a rotation, or that there is none, against the one that is expected.
func checkTurns(t *testing.T, name string, got []impl.Turn, want []impl.Turn) {
	t.Helper()
	if !sameTurns(got, want) {
		t.Errorf("%s = %v, not %v", name, got, want)
	}
}

// sharedTurns returns what TurnsFor should return, told by a pool.
func sharedTurns(list []impl.Holding, hours int) ([]impl.Turn, bool) {
	if hours < 1 || hours > 336 || !isWhole(list) {
		return nil, false
	}
	p := poolOf(list, 1)
	units := []int{}
	for _, h := range list {
		if p.units[h.Owner] > 1000 {
			return nil, false
		}
		units = append(units, p.units[h.Owner])
	}
	turns := []impl.Turn{}
	for i, given := range restSplit(hours, units) {
		if given > 0 {
			turns = append(turns, run(list[i].Owner, given))
		}
	}
	return turns, true
}

// weightLedger returns the ledger of owners with shares by weights.
func weightLedger(weights ...int) []impl.Holding {
	list := []impl.Holding{}
	for i, w := range weights {
		list = append(list, impl.Holding{Owner: 10*i + 5, Share: lowest(w, total(weights))})
	}
	return list
}

// turnLedgers returns ledgers of many kinds, many of which have units that are not too great.
func turnLedgers() [][]impl.Holding {
	lists := append(someLedgers(), weightLedger(1000, 1), weightLedger(1, 1000), weightLedger(1001, 1), weightLedger(1, 1001))
	lists = append(lists, weightLedger(1000, 999), weightLedger(1000, 999, 998), weightLedger(999, 1), weightLedger(3, 2, 1, 1, 3, 2))
	lists = append(lists, weightLedger(1, 2, 3, 4, 5, 6, 7, 8, 9, 10, 11, 12), weightLedger(1, 1000, 1, 1000, 1, 1000), weightLedger(12, 1, 1, 1, 1, 1, 1, 1, 1, 1, 1, 1))
	d := &dice{seed: 61}
	for range 20 {
		lists = append(lists, madeLedger(d, 2+d.roll(1000)))
	}
	return lists
}

// allOrders returns all orders of the numbers from 0 up to, not including, n.
func allOrders(n int) [][]int {
	orders := [][]int{{}}
	for k := range n {
		longer := [][]int{}
		for _, order := range orders {
			for at := range k + 1 {
				longer = append(longer, append(append(copyOf(order[:at]), k), order[at:]...))
			}
		}
		orders = longer
	}
	return orders
}

// allWishes returns all lists of wishes of so many traders.
func allWishes(traders int) [][][]int {
	orders := allOrders(traders)
	all := [][][]int{{}}
	for range traders {
		more := [][][]int{}
		for _, wishes := range all {
			for _, order := range orders {
				more = append(more, append(copyWishes(wishes), copyOf(order)))
			}
		}
		all = more
	}
	return all
}

// copyWishes returns a copy of wishes.
func copyWishes(wishes [][]int) [][]int {
	list := [][]int{}
	for _, wish := range wishes {
		list = append(list, copyOf(wish))
	}
	return list
}

// sameWishes reports whether two lists of wishes are the same.
func sameWishes(a [][]int, b [][]int) bool {
	if len(a) != len(b) {
		return false
	}
	for i := range a {
		if !sameList(a[i], b[i]) {
			return false
		}
	}
	return true
}

// indices returns the numbers from 0 up to, not including, n.
func indices(n int) []int {
	list := []int{}
	for i := range n {
		list = append(list, i)
	}
	return list
}

// exchanged returns a list with two of its numbers exchanged.
func exchanged(list []int, i int, k int) []int {
	after := copyOf(list)
	after[i] = list[k]
	after[k] = list[i]
	return after
}

// mixed returns the indices up to n in an order without a pattern.
func mixed(d *dice, n int) []int {
	list := indices(n)
	for i := range list {
		list = exchanged(list, i, i+d.roll(n-i))
	}
	return list
}

// nearWish returns an order without a pattern in which the wishes of most traders begin with the same few turns.
func nearWish(d *dice, n int) []int {
	list := indices(n)
	for range n / 2 {
		i := d.roll(n - 1)
		list = exchanged(list, i, i+1)
	}
	return list
}

// madeWishes returns wishes without a pattern; some of them are near to each other, so that many traders keep their turns.
func madeWishes(d *dice, traders int) [][]int {
	wishes := [][]int{}
	near := d.roll(3) == 0
	for range traders {
		if near && traders > 1 {
			wishes = append(wishes, nearWish(d, traders))
		} else {
			wishes = append(wishes, mixed(d, traders))
		}
	}
	return wishes
}

// fewWishes returns wishes made by hand: rings, pairs, traders who keep their turns, and chains that lead to them.
func fewWishes() [][][]int {
	return [][][]int{
		{}, {{0}}, {{0, 1}, {1, 0}}, {{0, 1}, {0, 1}}, {{1, 0}, {0, 1}}, {{1, 0}, {1, 0}},
		{{1, 0, 2}, {0, 1, 2}, {0, 1, 2}}, {{1, 2, 0}, {2, 0, 1}, {0, 1, 2}}, {{2, 1, 0}, {2, 0, 1}, {1, 0, 2}},
		{{2, 0, 1, 3}, {2, 1, 0, 3}, {2, 3, 0, 1}, {2, 0, 1, 3}}, {{1, 0, 2, 3}, {2, 1, 0, 3}, {3, 2, 0, 1}, {3, 0, 1, 2}},
		{{1, 0, 2, 3}, {0, 1, 2, 3}, {3, 2, 0, 1}, {2, 3, 0, 1}}, {{3, 2, 1, 0}, {3, 2, 1, 0}, {3, 2, 1, 0}, {3, 2, 1, 0}},
		ringWishes(8, 1), ringWishes(8, 7), ringWishes(8, 2), ringWishes(8, 4), ringWishes(7, 3), ringWishes(8, 0), ringWishes(5, 1),
	}
}

// ringWishes returns the wishes of traders who each like the turn best that is so many places on, and the ones after it.
func ringWishes(traders int, places int) [][]int {
	wishes := [][]int{}
	for i := range traders {
		wish := []int{}
		for k := range traders {
			wish = append(wish, (i+places+k)%traders)
		}
		wishes = append(wishes, wish)
	}
	return wishes
}

// someWishes returns valid wishes of many kinds: all of three traders or fewer, and some of more.
func someWishes() [][][]int {
	lists := append(fewWishes(), allWishes(1)...)
	lists = append(lists, allWishes(2)...)
	lists = append(lists, allWishes(3)...)
	d := &dice{seed: 71}
	for traders := 4; traders <= 8; traders++ {
		for range 150 {
			lists = append(lists, madeWishes(d, traders))
		}
	}
	return lists
}

// badWishes returns wishes that are not valid.
func badWishes() [][][]int {
	return [][][]int{
		{nil}, {{}}, {{1}}, {{-1}}, {{0, 1}}, {{0, 0}}, {{0}, {0}}, {{0}, {1}}, {{0, 1}, {0}}, {{0, 1}, {}}, {{0, 1}, nil}, {nil, {0, 1}},
		{{0, 0}, {0, 1}}, {{0, 1}, {1, 1}}, {{0, 2}, {0, 1}}, {{0, 1}, {1, 2}}, {{-1, 0}, {0, 1}}, {{0, 1, 2}, {0, 1, 2}}, {{1, 0}, {0, 1, 1}}, {{1, 0, 1}, {0, 1}},
		{{0, 1, 2}, {0, 1, 2}, {0, 1, 1}}, {{0, 1, 2}, {0, 2, 2}, {0, 1, 2}}, {{0, 1, 2}, {0, 1, 2}}, {{0, 1, 2}, {0, 1, 2}, {0, 1, 3}}, {{1, 2, 3}, {1, 2, 3}, {1, 2, 3}},
		{{greatestInt}}, {{leastInt}}, {{0, greatestInt}, {0, 1}}, {{0, 1}, {leastInt, 0}},
		ringWishes(9, 0), ringWishes(9, 1), ringWishes(100, 3), ringWishes(8, 1)[:7], make([][]int, 9), make([][]int, 8),
	}
}

// placeIn returns the place of a number in a list, or its length.
func placeIn(list []int, n int) int {
	for i, other := range list {
		if other == n {
			return i
		}
	}
	return len(list)
}

// tradedTurns returns what TradeTurns should return: all circles that there are go together, round by round.
func tradedTurns(wishes [][]int) []int {
	got := make([]int, len(wishes))
	left := indices(len(wishes))
	for len(left) > 0 {
		gone := []int{}
		for _, trader := range left {
			at := trader
			for range left {
				at = likedOf(wishes[at], left)
				if at == trader {
					gone = append(gone, trader)
					break
				}
			}
		}
		for _, trader := range gone {
			got[trader] = likedOf(wishes[trader], left)
		}
		left = numbersWithout(left, gone)
	}
	return got
}

// likedOf returns the best one of the turns that are left.
func likedOf(wish []int, left []int) int {
	best := left[0]
	for _, turn := range left {
		if placeIn(wish, turn) < placeIn(wish, best) {
			best = turn
		}
	}
	return best
}

// numbersWithout returns the numbers of a list that are not in another one.
func numbersWithout(list []int, gone []int) []int {
	rest := []int{}
	for _, n := range list {
		if !isOneOf(n, gone) {
			rest = append(rest, n)
		}
	}
	return rest
}
