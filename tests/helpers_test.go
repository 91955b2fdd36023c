package tests

import "loop.example/watershares/impl"

const greatestInt = 9223372036854775807
const leastInt = -greatestInt - 1

// frac returns a fraction.
func frac(n int, d int) impl.Frac {
	return impl.Frac{Num: n, Den: d}
}

// one returns the whole.
func one() impl.Frac {
	return frac(1, 1)
}

// divisorOf finds the greatest common divisor by trying, which is not how the program does it.
func divisorOf(a int, b int) int {
	for k := b; k > 1; k-- {
		if a%k == 0 && b%k == 0 {
			return k
		}
	}
	return 1
}

// someFracs returns all fractions with small denominators, and those at the limits.
func someFracs() []impl.Frac {
	list := []impl.Frac{
		frac(1, 10000), frac(9999, 10000), frac(4999, 10000), frac(3, 10000),
		frac(1, 9999), frac(9998, 9999), frac(5000, 9999), frac(1, 5000),
		frac(99, 100), frac(1, 100), frac(1, 101), frac(9972, 9973),
	}
	for d := 1; d <= 14; d++ {
		for n := 0; n <= d; n++ {
			if divisorOf(n, d) == 1 {
				list = append(list, frac(n, d))
			}
		}
	}
	return list
}

// badFracs returns fractions that are not valid.
func badFracs() []impl.Frac {
	return []impl.Frac{
		frac(0, 0), frac(1, 0), frac(0, 2), frac(0, 10000), frac(2, 2), frac(2, 4), frac(5000, 10000),
		frac(5, 4), frac(2, 1), frac(-1, 2), frac(1, -2), frac(-1, -2), frac(0, -1),
		frac(1, 10001), frac(0, 10001), frac(10000, 10001), frac(10001, 10001),
		frac(greatestInt, greatestInt), frac(1, greatestInt), frac(leastInt, leastInt), frac(leastInt, 3), frac(3, leastInt),
	}
}

// sameList reports whether two lists have the same numbers.
func sameList(a []int, b []int) bool {
	if len(a) != len(b) {
		return false
	}
	for i := range a {
		if a[i] != b[i] {
			return false
		}
	}
	return true
}

// isList reports whether a list has exactly some numbers.
func isList(list []int, n ...int) bool {
	return sameList(list, n)
}

// copyOf returns a copy of a list.
func copyOf(list []int) []int {
	return append([]int{}, list...)
}

// reversed returns a list in reverse order.
func reversed(list []int) []int {
	back := []int{}
	for i := len(list) - 1; i >= 0; i-- {
		back = append(back, list[i])
	}
	return back
}

// total returns the sum of a list.
func total(list []int) int {
	sum := 0
	for _, n := range list {
		sum += n
	}
	return sum
}

// twelve returns as many weights as there may be, all of them alike.
func twelve(w int) []int {
	list := []int{}
	for len(list) < 12 {
		list = append(list, w)
	}
	return list
}

// someWeights returns weights of many kinds: alone, 0, equal, at the limits, and mixed without a pattern.
func someWeights() [][]int {
	lists := [][]int{
		{1}, {7}, {1000}, {0, 5}, {5, 0}, {0, 0, 1}, {5, 0, 5, 0}, {0, 3, 0, 3, 0, 1},
		{1, 1}, {1, 1, 1}, {2, 2, 2, 2, 2}, {1, 2, 1}, {2, 1, 2}, {6, 3, 1}, {1, 3, 6}, {1, 2, 3, 4, 5, 6},
		{1000, 1}, {1, 1000}, {1000, 999, 998}, {1000, 0, 1000}, {501, 500, 499},
		twelve(1), twelve(1000), append(twelve(1)[1:], 1000), append(twelve(0)[1:], 1),
	}
	seed := 17
	for k := 0; k < 40; k++ {
		list := []int{1 + k}
		for i := 0; i < k%12; i++ {
			seed = (seed*1103 + 12345) % 65537
			list = append(list, seed%(1+25*k))
		}
		lists = append(lists, list)
	}
	return lists
}

// badWeights returns weights that are not valid.
func badWeights() [][]int {
	return [][]int{
		nil, {}, {0}, {0, 0}, twelve(0), {1001}, {1, 1001}, {1001, 1}, {-1}, {2, -1}, {-1, 2},
		append(twelve(1), 1), append(twelve(1), 0), append(twelve(1000), 1000),
		{greatestInt}, {greatestInt, 1}, {leastInt, 5}, {leastInt, leastInt},
	}
}

// someCounts returns numbers of units, with those at the limits.
func someCounts() []int {
	return []int{0, 1, 2, 3, 4, 5, 7, 10, 11, 12, 13, 24, 50, 99, 100, 101, 250, 333, 498, 499, 500}
}

// badCounts returns numbers of units that are not valid.
func badCounts() []int {
	return []int{-1, 501, -500, 1000, greatestInt, leastInt}
}
