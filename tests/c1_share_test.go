package tests

import (
	"testing"

	"loop.example/watershares/impl"
)

func TestValidFrac(t *testing.T) {
	for _, f := range someFracs() {
		if !impl.ValidFrac(f) {
			t.Errorf("ValidFrac(%v) = false", f)
		}
	}
	for _, f := range badFracs() {
		if impl.ValidFrac(f) {
			t.Errorf("ValidFrac(%v) = true", f)
		}
	}
	for d := 1; d <= 60; d++ {
		for n := -1; n <= d+1; n++ {
			want := n >= 0 && n <= d && divisorOf(n, d) == 1
			if impl.ValidFrac(frac(n, d)) != want {
				t.Errorf("ValidFrac(%d/%d) = %v", n, d, !want)
			}
		}
	}
}

// checkMade checks a fraction of n and d, or that there is none, against what the document says of it.
func checkMade(t *testing.T, name string, f impl.Frac, ok bool, n int, d int) {
	t.Helper()
	want := impl.Frac{}
	fine := d >= 1 && n >= 0 && n <= d
	if fine {
		k := d
		for k > 1 && (n%k != 0 || d%k != 0) {
			k--
		}
		fine = d/k <= impl.MaxDen
		if fine {
			want = frac(n/k, d/k)
		}
	}
	if ok != fine || f != want {
		t.Errorf("%s = %v, %v, not %v, %v", name, f, ok, want, fine)
	}
}

func TestMakeFrac(t *testing.T) {
	for d := 1; d <= 40; d++ {
		for n := -2; n <= d+2; n++ {
			f, ok := impl.MakeFrac(n, d)
			checkMade(t, "MakeFrac", f, ok, n, d)
		}
	}
	for _, d := range []int{9999, 10000, 10001, 10002, 20000, 99999, 999999, 1000000} {
		for _, n := range []int{0, 1, 2, 3, 50, 99, 100, 101, 5001, d / 2, d - 100, d - 2, d - 1, d, d + 1} {
			f, ok := impl.MakeFrac(n, d)
			checkMade(t, "MakeFrac", f, ok, n, d)
		}
	}
}

func TestMakeFracOfOtherArguments(t *testing.T) {
	tops := []int{0, 1, 1, 1000001, 0, 1, 0, 0, -1, leastInt, greatestInt, 5, 0}
	dens := []int{0, 0, -1, 1000001, 1000001, 1000001, -1, -5, -1, leastInt, greatestInt, 4, leastInt}
	for i := range tops {
		f, ok := impl.MakeFrac(tops[i], dens[i])
		if ok || f != (impl.Frac{}) {
			t.Errorf("MakeFrac(%d, %d) = %v, %v", tops[i], dens[i], f, ok)
		}
	}
}

// smallPairs returns fractions that are paired with each other, few enough to look for their divisors by trying.
func smallPairs() []impl.Frac {
	list := []impl.Frac{frac(1, 97), frac(96, 97), frac(1, 101), frac(100, 101), frac(50, 99), frac(1, 100), frac(99, 100)}
	for d := 1; d <= 7; d++ {
		for n := 0; n <= d; n++ {
			if divisorOf(n, d) == 1 {
				list = append(list, frac(n, d))
			}
		}
	}
	return list
}

func TestSumsDifferencesAndProducts(t *testing.T) {
	for _, a := range smallPairs() {
		for _, b := range smallPairs() {
			d := a.Den * b.Den
			f, ok := impl.AddFrac(a, b)
			checkMade(t, "AddFrac", f, ok, a.Num*b.Den+b.Num*a.Den, d)
			f, ok = impl.SubFrac(a, b)
			checkMade(t, "SubFrac", f, ok, a.Num*b.Den-b.Num*a.Den, d)
			f, ok = impl.MulFrac(a, b)
			checkMade(t, "MulFrac", f, ok, a.Num*b.Num, d)
		}
	}
}

func TestFractionsAtTheLimits(t *testing.T) {
	if f, ok := impl.AddFrac(frac(1, 10000), frac(9999, 10000)); !ok || f != one() {
		t.Errorf("AddFrac to the whole = %v", f)
	}
	if f, ok := impl.AddFrac(frac(1, 10000), one()); ok || f != frac(0, 0) {
		t.Errorf("AddFrac beyond the whole = %v", f)
	}
	if f, ok := impl.AddFrac(frac(1, 100), frac(1, 101)); ok || f != frac(0, 0) {
		t.Errorf("AddFrac with the denominator 10100 = %v", f)
	}
	if f, ok := impl.AddFrac(frac(1, 16), frac(1, 625)); !ok || f != frac(641, 10000) {
		t.Errorf("AddFrac with the denominator 10000 = %v", f)
	}
	if f, ok := impl.AddFrac(frac(1, 10000), frac(1, 5000)); !ok || f != frac(3, 10000) {
		t.Errorf("AddFrac with the denominator 10000 = %v", f)
	}
	if f, ok := impl.SubFrac(frac(1, 16), frac(1, 625)); !ok || f != frac(609, 10000) {
		t.Errorf("SubFrac with the denominator 10000 = %v", f)
	}
	if f, ok := impl.SubFrac(frac(1, 100), frac(1, 101)); ok || f != frac(0, 0) {
		t.Errorf("SubFrac with the denominator 10100 = %v", f)
	}
	if f, ok := impl.SubFrac(frac(9998, 9999), frac(9999, 10000)); ok || f != frac(0, 0) {
		t.Errorf("SubFrac of more = %v", f)
	}
	if f, ok := impl.SubFrac(frac(9999, 10000), frac(9999, 10000)); !ok || f != frac(0, 1) {
		t.Errorf("SubFrac of itself = %v", f)
	}
	if f, ok := impl.MulFrac(frac(1, 100), frac(1, 100)); !ok || f != frac(1, 10000) {
		t.Errorf("MulFrac with the denominator 10000 = %v", f)
	}
	if f, ok := impl.MulFrac(frac(1, 73), frac(1, 137)); ok || f != frac(0, 0) {
		t.Errorf("MulFrac with the denominator 10001 = %v", f)
	}
	if f, ok := impl.MulFrac(frac(9999, 10000), frac(5000, 9999)); !ok || f != frac(1, 2) {
		t.Errorf("MulFrac that is reduced = %v", f)
	}
	if f, ok := impl.MulFrac(frac(9999, 10000), frac(0, 1)); !ok || f != frac(0, 1) {
		t.Errorf("MulFrac with 0 = %v", f)
	}
}

// checkNoFracs checks that nothing is told of two fractions of which one is not valid.
func checkNoFracs(t *testing.T, a impl.Frac, b impl.Frac) {
	t.Helper()
	if f, ok := impl.AddFrac(a, b); ok || f != frac(0, 0) {
		t.Errorf("AddFrac(%v, %v) = %v, %v", a, b, f, ok)
	}
	if f, ok := impl.SubFrac(a, b); ok || f != frac(0, 0) {
		t.Errorf("SubFrac(%v, %v) = %v, %v", a, b, f, ok)
	}
	if f, ok := impl.MulFrac(a, b); ok || f != frac(0, 0) {
		t.Errorf("MulFrac(%v, %v) = %v, %v", a, b, f, ok)
	}
	if sign := impl.CompareFrac(a, b); sign != 0 {
		t.Errorf("CompareFrac(%v, %v) = %d", a, b, sign)
	}
}

func TestOtherFractions(t *testing.T) {
	good := []impl.Frac{frac(0, 1), frac(1, 1), frac(1, 3), frac(9999, 10000)}
	for _, bad := range badFracs() {
		for _, f := range good {
			checkNoFracs(t, bad, f)
			checkNoFracs(t, f, bad)
		}
		checkNoFracs(t, bad, bad)
		if part := impl.PartOf(10, bad); part != -1 {
			t.Errorf("PartOf(10, %v) = %d", bad, part)
		}
		if text := impl.FormatFrac(bad); text != "" {
			t.Errorf("FormatFrac(%v) = %q", bad, text)
		}
	}
}

func TestCompareFrac(t *testing.T) {
	rising := []impl.Frac{frac(0, 1), frac(1, 10000), frac(1, 9999), frac(1, 3), frac(3333, 9998), frac(4999, 9999), frac(1, 2), frac(5000, 9999), frac(2, 3), frac(9998, 9999), frac(9999, 10000), frac(1, 1)}
	for i, a := range rising {
		for k, b := range rising {
			want := 0
			if i < k {
				want = -1
			}
			if i > k {
				want = 1
			}
			if sign := impl.CompareFrac(a, b); sign != want {
				t.Errorf("CompareFrac(%v, %v) = %d", a, b, sign)
			}
		}
	}
}

func TestPartOf(t *testing.T) {
	counts := []int{0, 1, 99, 100, 100, 1000000, 1000000, 1000000, 1000000, 9999, 10000, 999999}
	parts := []impl.Frac{frac(1, 2), frac(1, 2), frac(2, 3), frac(0, 1), frac(1, 1), frac(1, 1), frac(9999, 10000), frac(1, 10000), frac(2, 3), frac(1, 10000), frac(1, 10000), frac(9999, 10000)}
	want := []int{0, 0, 66, 0, 100, 1000000, 999900, 100, 666666, 0, 1, 999899}
	for i, n := range counts {
		if part := impl.PartOf(n, parts[i]); part != want[i] {
			t.Errorf("PartOf(%d, %v) = %d", n, parts[i], part)
		}
	}
	for _, n := range []int{-1, 1000001, leastInt, greatestInt} {
		for _, f := range parts {
			if part := impl.PartOf(n, f); part != -1 {
				t.Errorf("PartOf(%d, %v) = %d", n, f, part)
			}
		}
	}
}

func TestFormatFrac(t *testing.T) {
	list := []impl.Frac{frac(0, 1), frac(1, 1), frac(3, 4), frac(9, 10), frac(10, 11), frac(1, 10000), frac(9999, 10000), frac(1009, 2005)}
	want := []string{"0/1", "1/1", "3/4", "9/10", "10/11", "1/10000", "9999/10000", "1009/2005"}
	for i, f := range list {
		if text := impl.FormatFrac(f); text != want[i] {
			t.Errorf("FormatFrac(%v) = %q", f, text)
		}
		if back, ok := impl.ParseFrac(want[i]); !ok || back != f {
			t.Errorf("ParseFrac(%q) = %v, %v", want[i], back, ok)
		}
	}
}

func TestParseFracOfOtherTexts(t *testing.T) {
	long := "1"
	for i := 0; i < 300; i++ {
		long = long + "0"
	}
	list := []string{
		"", "/", "3", "/4", "3/", "3/0", "0/0", "1/0", "0/2", "2/2", "6/8", "5/4", "2/1", "03/4", "3/04", "00/1", "0/01",
		"3/4/5", "3//4", "//", "3/4/", "/3/4", "-1/2", "1/-2", "-0/1", "+1/2", "1/+2", " 1/2", "1/2 ", "1 /2", "1/ 2", "1/2\n", "1\\2",
		"1/10001", "10001/10001", "5000/10000", "1/20000", "0x1/2", "1/1e1", "1.0/2", "a/b", "1/2\x00", "\x001/2", "१/२", "1/２",
		"1/18446744073709551618", "18446744073709551617/2", "1/4294967298", long, long + "/" + long, "1/" + long, long + "/1", "1/0000000000000000002",
	}
	for _, s := range list {
		if f, ok := impl.ParseFrac(s); ok || f != frac(0, 0) {
			t.Errorf("ParseFrac(%q) = %v, %v", s, f, ok)
		}
	}
}

func TestValidWeights(t *testing.T) {
	for _, list := range someWeights() {
		if !impl.ValidWeights(list) {
			t.Errorf("ValidWeights(%v) = false", list)
		}
	}
	for _, list := range badWeights() {
		if impl.ValidWeights(list) {
			t.Errorf("ValidWeights(%v) = true", list)
		}
	}
}

func TestQuotasOf(t *testing.T) {
	for _, weights := range someWeights() {
		for _, n := range someCounts() {
			given := impl.QuotasOf(n, weights)
			if len(given) != len(weights) {
				t.Fatalf("QuotasOf(%d, %v) = %v", n, weights, given)
			}
			for i, w := range weights {
				// Rounded down: as many as there are, and not one more.
				if given[i]*total(weights) > n*w || (given[i]+1)*total(weights) <= n*w {
					t.Errorf("QuotasOf(%d, %v) = %v", n, weights, given)
				}
			}
		}
	}
}

// restSplit divides by remainders without an order of steps: a weight gets a unit more if fewer come before it than units are left.
func restSplit(n int, weights []int) []int {
	sum := total(weights)
	left := n
	for _, w := range weights {
		left -= n * w / sum
	}
	given := []int{}
	for i, w := range weights {
		before := 0
		for k, v := range weights {
			if n*v%sum > n*w%sum || (n*v%sum == n*w%sum && k < i) {
				before++
			}
		}
		units := n * w / sum
		if before < left {
			units++
		}
		given = append(given, units)
	}
	return given
}

// unitsBefore returns how many units of the weight v come before the unit of the weight w with the number u, of n units at most; units of equal averages come first if first is set.
func unitsBefore(v int, w int, u int, step int, n int, first bool) int {
	count := 0
	for k := 0; k < n; k++ {
		left := v * (step*u + 1)
		right := w * (step*k + 1)
		if left > right || (left == right && first) {
			count++
		}
	}
	return count
}

// averageSplit divides by averages without an order of steps: a unit is given if fewer units come before it than there are.
func averageSplit(n int, weights []int, step int) []int {
	given := []int{}
	for i, w := range weights {
		units := 0
		for u := 0; u < n && w > 0; u++ {
			before := u
			for k, v := range weights {
				if k != i && v > 0 {
					before += unitsBefore(v, w, u, step, n, k < i)
				}
			}
			if before < n {
				units++
			}
		}
		given = append(given, units)
	}
	return given
}

func TestSplitsAgreeWithTheirRankings(t *testing.T) {
	for _, weights := range someWeights() {
		for _, n := range someCounts() {
			if given := impl.SplitByRest(n, weights); !sameList(given, restSplit(n, weights)) {
				t.Errorf("SplitByRest(%d, %v) = %v", n, weights, given)
			}
			if n > 25 {
				continue
			}
			if given := impl.SplitByHighest(n, weights); !sameList(given, averageSplit(n, weights, 1)) {
				t.Errorf("SplitByHighest(%d, %v) = %v", n, weights, given)
			}
			if given := impl.SplitByMiddle(n, weights); !sameList(given, averageSplit(n, weights, 2)) {
				t.Errorf("SplitByMiddle(%d, %v) = %v", n, weights, given)
			}
		}
	}
}

func TestEqualOnesTakeTheFirst(t *testing.T) {
	if given := impl.SplitByRest(2, []int{1, 2, 1}); !isList(given, 1, 1, 0) {
		t.Errorf("SplitByRest = %v", given)
	}
	if given := impl.SplitByRest(5, []int{0, 1, 1, 0, 1}); !isList(given, 0, 2, 2, 0, 1) {
		t.Errorf("SplitByRest = %v", given)
	}
	if given := impl.SplitByHighest(1, []int{0, 1, 1}); !isList(given, 0, 1, 0) {
		t.Errorf("SplitByHighest = %v", given)
	}
	if given := impl.SplitByHighest(2, []int{2, 1}); !isList(given, 2, 0) {
		t.Errorf("SplitByHighest = %v", given)
	}
	if given := impl.SplitByHighest(2, []int{1, 2}); !isList(given, 1, 1) {
		t.Errorf("SplitByHighest = %v", given)
	}
	if given := impl.SplitByMiddle(2, []int{3, 1}); !isList(given, 2, 0) {
		t.Errorf("SplitByMiddle = %v", given)
	}
	if given := impl.SplitByMiddle(2, []int{1, 3}); !isList(given, 1, 1) {
		t.Errorf("SplitByMiddle = %v", given)
	}
	if given := impl.SplitByMiddle(13, twelve(1000)); !sameList(given, append([]int{2}, twelve(1)[1:]...)) {
		t.Errorf("SplitByMiddle = %v", given)
	}
}

func TestWeightsOfZeroGetNothing(t *testing.T) {
	weights := []int{0, 3, 0, 1, 0}
	for n := 0; n <= 500; n++ {
		for _, given := range [][]int{impl.QuotasOf(n, weights), impl.SplitByRest(n, weights), impl.SplitByHighest(n, weights), impl.SplitByMiddle(n, weights)} {
			if len(given) != 5 || given[0] != 0 || given[2] != 0 || given[4] != 0 {
				t.Errorf("division of %d by %v: %v", n, weights, given)
			}
		}
	}
}

// checkNoSplit checks that nothing is divided.
func checkNoSplit(t *testing.T, n int, weights []int) {
	t.Helper()
	if len(impl.QuotasOf(n, weights)) != 0 || len(impl.SplitByRest(n, weights)) != 0 || len(impl.SplitByHighest(n, weights)) != 0 || len(impl.SplitByMiddle(n, weights)) != 0 {
		t.Errorf("%d units are divided by %v", n, weights)
	}
}

func TestOtherDivisions(t *testing.T) {
	for _, weights := range badWeights() {
		for _, n := range []int{0, 1, 10, 500} {
			checkNoSplit(t, n, weights)
		}
	}
	for _, n := range badCounts() {
		checkNoSplit(t, n, []int{6, 3, 1})
		checkNoSplit(t, n, nil)
	}
}

func TestDistanceOf(t *testing.T) {
	given := [][]int{{5, 2, 0}, {4, 2, 1}, {6, 3, 1}, {0, 0, 0}, {500, 0, 0}, {0, 0, 500}, {1, 0, 0}}
	want := []int{16, 6, 0, 0, 4000, 9000, 8}
	for i, list := range given {
		if d := impl.DistanceOf(list, []int{6, 3, 1}); d != want[i] {
			t.Errorf("DistanceOf(%v) = %d", list, d)
		}
	}
	if d := impl.DistanceOf([]int{0, 500}, []int{1000, 0}); d != 1000000 {
		t.Errorf("DistanceOf = %d", d)
	}
	if d := impl.DistanceOf(append(twelve(0)[1:], 500), twelve(1000)); d != 11*500*1000+500*11000 {
		t.Errorf("DistanceOf = %d", d)
	}
}

func TestDistanceOfOtherNumbers(t *testing.T) {
	weights := []int{6, 3, 1}
	given := [][]int{nil, {}, {1}, {6, 3}, {6, 3, 1, 0}, {-1, 3, 1}, {6, 3, -1}, {501, 0, 0}, {500, 1, 0}, {500, 500, 500}, {1, 0, 500}, {greatestInt, 1, 1}, {leastInt, 0, 0}, {greatestInt, leastInt, 1}}
	for _, list := range given {
		if d := impl.DistanceOf(list, weights); d != -1 {
			t.Errorf("DistanceOf(%v) = %d", list, d)
		}
	}
	for _, list := range badWeights() {
		none := make([]int, len(list))
		if d := impl.DistanceOf(none, list); d != -1 {
			t.Errorf("DistanceOf by %v = %d", list, d)
		}
	}
}

// spoil writes over a list, and into spare memory behind it.
func spoil(list []int) {
	for i := range list {
		list[i] = -99
	}
	longer := append(list, -99, -99)
	longer[0] = -99
}

func TestAnswersAreNewMemory(t *testing.T) {
	store := []int{6, 3, 1, 77, 77}
	weights := store[:3]
	gifts := []int{4, 2, 1}
	spoil(impl.QuotasOf(7, weights))
	spoil(impl.SplitByRest(7, weights))
	spoil(impl.SplitByHighest(7, weights))
	spoil(impl.SplitByMiddle(7, weights))
	if d := impl.DistanceOf(gifts, weights); d != 6 {
		t.Errorf("DistanceOf(%v, %v) = %d", gifts, weights, d)
	}
	if !isList(store, 6, 3, 1, 77, 77) || !isList(gifts, 4, 2, 1) {
		t.Errorf("arguments were written to: %v, %v", store, gifts)
	}
	first := impl.SplitByRest(7, weights)
	spoil(impl.SplitByRest(7, weights))
	if !isList(first, 4, 2, 1) {
		t.Errorf("two answers share memory: %v", first)
	}
}
