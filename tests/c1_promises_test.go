package tests

import (
	"testing"

	"loop.example/watershares/impl"
)

// restOf returns the whole less a fraction, which must succeed.
func restOf(t *testing.T, f impl.Frac) impl.Frac {
	t.Helper()
	rest, ok := impl.SubFrac(one(), f)
	if !ok || !impl.ValidFrac(rest) {
		t.Errorf("SubFrac(1, %v) = %v, %v", f, rest, ok)
	}
	return rest
}

func TestP1FractionsHaveComplements(t *testing.T) {
	for _, f := range someFracs() {
		rest := restOf(t, f)
		if sum, ok := impl.AddFrac(f, rest); !ok || sum != one() {
			t.Errorf("%v and %v are %v, %v", f, rest, sum, ok)
		}
	}
	if restOf(t, frac(0, 1)) != one() || restOf(t, one()) != frac(0, 1) || restOf(t, frac(1, 10000)) != frac(9999, 10000) {
		t.Error("complements of 0, of 1, and at the limit")
	}
}

func TestP2FractionsAreReduced(t *testing.T) {
	for _, f := range someFracs() {
		if back, ok := impl.MakeFrac(f.Num, f.Den); !ok || back != f {
			t.Errorf("MakeFrac(%v) = %v, %v", f, back, ok)
		}
	}
	for _, d := range []int{1, 2, 6, 12, 60, 97, 360, 9999, 10000, 10002, 20000, 720720, 1000000} {
		for n := 0; n <= d; n += 1 + d/200 {
			f, ok := impl.MakeFrac(n, d)
			if ok && (f.Num*d != n*f.Den || !impl.ValidFrac(f)) {
				t.Errorf("MakeFrac(%d, %d) = %v", n, d, f)
			}
			if !ok && d <= impl.MaxDen {
				t.Errorf("MakeFrac(%d, %d) fails", n, d)
			}
		}
	}
}

func TestP3SumsHaveNoOrder(t *testing.T) {
	made := 0
	for _, a := range someFracs() {
		for _, b := range someFracs() {
			sum, ok := impl.AddFrac(a, b)
			other, fine := impl.AddFrac(b, a)
			if sum != other || ok != fine {
				t.Errorf("AddFrac of %v and %v: %v, %v", a, b, sum, other)
			}
			if !ok {
				continue
			}
			made++
			back, ok := impl.SubFrac(sum, b)
			if !ok || back != a || impl.CompareFrac(sum, a) < 0 || impl.CompareFrac(sum, b) < 0 {
				t.Errorf("AddFrac(%v, %v) = %v, and back %v", a, b, sum, back)
			}
		}
	}
	if made < 1000 {
		t.Errorf("only %d sums", made)
	}
}

func TestP4OrdersAreOrders(t *testing.T) {
	for _, a := range someFracs() {
		for _, b := range someFracs() {
			sign := impl.CompareFrac(a, b)
			if sign != -impl.CompareFrac(b, a) || (sign == 0) != (a == b) || sign < -1 || sign > 1 {
				t.Errorf("CompareFrac(%v, %v) = %d", a, b, sign)
			}
			if (sign < 0) != (a.Num*b.Den < b.Num*a.Den) {
				t.Errorf("CompareFrac(%v, %v) = %d", a, b, sign)
			}
		}
	}
}

func TestP5DifferencesAddUp(t *testing.T) {
	made := 0
	for _, a := range someFracs() {
		for _, b := range someFracs() {
			rest, ok := impl.SubFrac(a, b)
			if !ok {
				continue
			}
			made++
			if sum, fine := impl.AddFrac(rest, b); !fine || sum != a {
				t.Errorf("SubFrac(%v, %v) = %v, and back %v", a, b, rest, sum)
			}
		}
	}
	if made < 1000 {
		t.Errorf("only %d differences", made)
	}
}

func TestP6ProductsAreParts(t *testing.T) {
	made := 0
	for _, a := range someFracs() {
		if f, ok := impl.MulFrac(a, one()); !ok || f != a {
			t.Errorf("MulFrac(%v, 1) = %v, %v", a, f, ok)
		}
		for _, b := range someFracs() {
			f, ok := impl.MulFrac(a, b)
			other, fine := impl.MulFrac(b, a)
			if f != other || ok != fine {
				t.Errorf("MulFrac of %v and %v: %v, %v", a, b, f, other)
			}
			if !ok {
				continue
			}
			made++
			if !impl.ValidFrac(f) || impl.CompareFrac(f, a) > 0 || impl.CompareFrac(f, b) > 0 {
				t.Errorf("MulFrac(%v, %v) = %v", a, b, f)
			}
		}
	}
	if made < 1000 {
		t.Errorf("only %d products", made)
	}
}

func TestP7PartsLeaveTheRest(t *testing.T) {
	for _, f := range someFracs() {
		rest := restOf(t, f)
		for _, n := range []int{0, 1, 2, 3, 12, 99, 360, 10000, 10001, 999999, 1000000} {
			want := n
			if n*f.Num%f.Den != 0 {
				want = n - 1
			}
			if sum := impl.PartOf(n, f) + impl.PartOf(n, rest); sum != want {
				t.Errorf("parts of %d by %v and %v: %d", n, f, rest, sum)
			}
		}
	}
}

func TestP8FractionsAreReadBack(t *testing.T) {
	for _, f := range someFracs() {
		if back, ok := impl.ParseFrac(impl.FormatFrac(f)); !ok || back != f {
			t.Errorf("ParseFrac(%q) = %v, %v", impl.FormatFrac(f), back, ok)
		}
	}
	for d := 9990; d <= 10000; d++ {
		for n := 0; n <= d; n += 7 {
			f, ok := impl.MakeFrac(n, d)
			back, fine := impl.ParseFrac(impl.FormatFrac(f))
			if !ok || !fine || back != f {
				t.Errorf("ParseFrac(%q) = %v, %v", impl.FormatFrac(f), back, fine)
			}
		}
	}
}

// isText reports whether a text is one of a list.
func isText(s string, list []string) bool {
	for _, text := range list {
		if text == s {
			return true
		}
	}
	return false
}

// textsOf returns all texts of some length made of the bytes of an alphabet.
func textsOf(alphabet string, size int) []string {
	list := []string{""}
	for i := 0; i < size; i++ {
		next := []string{}
		for _, s := range list {
			for k := range alphabet {
				next = append(next, s+alphabet[k:k+1])
			}
		}
		list = next
	}
	return list
}

// madeOf reports whether all bytes of a text are in an alphabet.
func madeOf(s string, alphabet string) bool {
	for i := range len(s) {
		found := false
		for k := range len(alphabet) {
			found = found || s[i] == alphabet[k]
		}
		if !found {
			return false
		}
	}
	return true
}

// shortTexts returns the texts of all fractions that have at most 6 bytes, all of them in an alphabet.
func shortTexts(alphabet string) []string {
	list := []string{}
	// A greater number above the line has a denominator with as many digits, and so 7 bytes in all.
	for n := 0; n <= 99; n++ {
		for d := 1; d <= 9999; d++ {
			s := impl.FormatFrac(frac(n, d))
			if s != "" && len(s) <= 6 && madeOf(s, alphabet) {
				list = append(list, s)
			}
		}
	}
	return list
}

func TestP9FractionsAreWrittenBack(t *testing.T) {
	known := shortTexts("012/-")
	read := 0
	for size := 0; size <= 6; size++ {
		for _, s := range textsOf("012/-", size) {
			f, ok := impl.ParseFrac(s)
			if ok != isText(s, known) {
				t.Errorf("ParseFrac(%q) = %v, %v", s, f, ok)
			}
			if !ok {
				continue
			}
			read++
			if impl.FormatFrac(f) != s {
				t.Errorf("FormatFrac of ParseFrac(%q) = %q", s, impl.FormatFrac(f))
			}
		}
	}
	if read < 100 {
		t.Errorf("only %d texts are read", read)
	}
}

// withWeight returns how many weights are greater than 0.
func withWeight(weights []int) int {
	count := 0
	for _, w := range weights {
		if w > 0 {
			count++
		}
	}
	return count
}

func TestP10QuotasLeaveFewUnits(t *testing.T) {
	most := 0
	for _, weights := range someWeights() {
		for _, n := range someCounts() {
			quotas := impl.QuotasOf(n, weights)
			left := n - total(quotas)
			if len(quotas) != len(weights) || left < 0 || left >= withWeight(weights) {
				t.Errorf("QuotasOf(%d, %v) = %v", n, weights, quotas)
			}
			if left > most {
				most = left
			}
		}
	}
	if most != 11 {
		t.Errorf("at most %d units are left, not 11", most)
	}
}

func TestP11RemaindersAreGiven(t *testing.T) {
	for _, weights := range someWeights() {
		for n := 0; n <= 500; n++ {
			quotas := impl.QuotasOf(n, weights)
			given := impl.SplitByRest(n, weights)
			if len(given) != len(weights) || total(given) != n {
				t.Fatalf("SplitByRest(%d, %v) = %v", n, weights, given)
			}
			for i := range given {
				if given[i] < quotas[i] || given[i] > quotas[i]+1 {
					t.Errorf("SplitByRest(%d, %v) = %v of %v", n, weights, given, quotas)
				}
			}
		}
	}
}

// nearestMove returns the least distance after one unit was moved, -1 if none can be.
func nearestMove(given []int, weights []int) int {
	least := -1
	for i := range given {
		for k := range given {
			if i == k || given[i] == 0 {
				continue
			}
			moved := copyOf(given)
			moved[i]--
			moved[k]++
			d := impl.DistanceOf(moved, weights)
			if least < 0 || d < least {
				least = d
			}
		}
	}
	return least
}

func TestP12NothingIsNearerThanTheGreatestRemainders(t *testing.T) {
	for _, weights := range someWeights() {
		for _, n := range someCounts() {
			given := impl.SplitByRest(n, weights)
			d := impl.DistanceOf(given, weights)
			if d < 0 || d > impl.DistanceOf(impl.SplitByHighest(n, weights), weights) || d > impl.DistanceOf(impl.SplitByMiddle(n, weights), weights) {
				t.Errorf("SplitByRest(%d, %v) = %v is not the nearest", n, weights, given)
			}
			if moved := nearestMove(given, weights); moved >= 0 && d > moved {
				t.Errorf("SplitByRest(%d, %v) = %v is nearer with one unit moved", n, weights, given)
			}
		}
	}
}

func TestP13NoUnitIsEnviedByWeight(t *testing.T) {
	for _, weights := range someWeights() {
		for _, n := range someCounts() {
			given := impl.SplitByHighest(n, weights)
			if len(given) != len(weights) || total(given) != n {
				t.Fatalf("SplitByHighest(%d, %v) = %v", n, weights, given)
			}
			for i, w := range weights {
				for k, v := range weights {
					if i != k && given[k] > 0 && w*given[k] > v*(given[i]+1) {
						t.Errorf("SplitByHighest(%d, %v) = %v", n, weights, given)
					}
				}
			}
		}
	}
}

// oneMore reports whether a list is another one with 1 more at one place.
func oneMore(more []int, list []int) bool {
	if len(more) != len(list) || total(more) != total(list)+1 {
		return false
	}
	for i := range list {
		if more[i] < list[i] {
			return false
		}
	}
	return true
}

func TestP14MoreUnitsTakeNothingAwayByHighest(t *testing.T) {
	for _, weights := range someWeights() {
		before := impl.SplitByHighest(0, weights)
		if !sameList(before, make([]int, len(weights))) {
			t.Errorf("SplitByHighest(0, %v) = %v", weights, before)
		}
		for n := 1; n <= 500; n++ {
			given := impl.SplitByHighest(n, weights)
			if !oneMore(given, before) {
				t.Errorf("SplitByHighest(%d, %v) = %v after %v", n, weights, given, before)
			}
			before = given
		}
	}
}

func TestP15UnitsAreNearToTheWeights(t *testing.T) {
	for _, weights := range someWeights() {
		for _, n := range someCounts() {
			given := impl.SplitByMiddle(n, weights)
			if len(given) != len(weights) || total(given) != n {
				t.Fatalf("SplitByMiddle(%d, %v) = %v", n, weights, given)
			}
			for i, w := range weights {
				for k, v := range weights {
					if i != k && given[k] > 0 && w*(2*given[k]-1) > v*(2*given[i]+1) {
						t.Errorf("SplitByMiddle(%d, %v) = %v", n, weights, given)
					}
				}
			}
		}
	}
}

// doubled returns twice all weights.
func doubled(weights []int) []int {
	list := []int{}
	for _, w := range weights {
		list = append(list, 2*w)
	}
	return list
}

func TestP16MoreUnitsTakeNothingAwayByMiddle(t *testing.T) {
	for _, weights := range someWeights() {
		before := impl.SplitByMiddle(0, weights)
		if !sameList(before, make([]int, len(weights))) {
			t.Errorf("SplitByMiddle(0, %v) = %v", weights, before)
		}
		twice := doubled(weights)
		for n := 1; n <= 500; n++ {
			given := impl.SplitByMiddle(n, weights)
			if !oneMore(given, before) {
				t.Errorf("SplitByMiddle(%d, %v) = %v after %v", n, weights, given, before)
			}
			if impl.ValidWeights(twice) && !sameList(given, impl.SplitByMiddle(n, twice)) {
				t.Errorf("SplitByMiddle(%d, %v) is not that of twice the weights", n, weights)
			}
			before = given
		}
	}
}

// isExact reports whether each number is the part of its weight.
func isExact(given []int, weights []int) bool {
	for i, w := range weights {
		if given[i]*total(weights) != w*total(given) {
			return false
		}
	}
	return true
}

func TestP17ExactDivisionsHaveNoDistance(t *testing.T) {
	exact := 0
	for _, weights := range someWeights() {
		for _, n := range append(someCounts(), total(weights)) {
			if n > 500 {
				continue
			}
			given := impl.SplitByRest(n, weights)
			d := impl.DistanceOf(given, weights)
			if d < 0 || (d == 0) != isExact(given, weights) {
				t.Errorf("DistanceOf(%v, %v) = %d", given, weights, d)
			}
			if d == 0 {
				exact++
			}
			if impl.DistanceOf(reversed(given), reversed(weights)) != d {
				t.Errorf("DistanceOf(%v, %v) in reverse order", given, weights)
			}
		}
	}
	if exact < 100 {
		t.Errorf("only %d exact divisions", exact)
	}
}
