package impl

// MaxDen is the greatest denominator of a fraction.
const MaxDen = 10000

// MaxAmount is the greatest amount.
const MaxAmount = 1000000

// MaxOwners is the largest number of owners, and of weights.
const MaxOwners = 12

// MaxWeight is the greatest weight.
const MaxWeight = 1000

// MaxUnits is the largest number of units that are divided.
const MaxUnits = 500

// maxDigits is as many digits as MaxAmount has, so that no number that is read can overflow.
const maxDigits = 7

// middleStep is how much each unit of a weight adds to what SplitByMiddle divides it by.
const middleStep = 2

// Frac is a fraction from 0 to 1.
type Frac struct {
	Num int
	Den int
}

// ValidFrac reports whether a fraction is valid.
func ValidFrac(f Frac) bool {
	if f.Den < 1 || f.Den > MaxDen || f.Num < 0 || f.Num > f.Den {
		return false
	}
	return commonDivisor(f.Num, f.Den) == 1
}

// MakeFrac returns the fraction of two numbers.
func MakeFrac(n int, d int) (Frac, bool) {
	if d < 1 || d > MaxAmount {
		return Frac{}, false
	}
	return reduced(n, d)
}

// AddFrac returns the sum of two fractions.
func AddFrac(a Frac, b Frac) (Frac, bool) {
	if !ValidFrac(a) || !ValidFrac(b) {
		return Frac{}, false
	}
	return reduced(a.Num*b.Den+b.Num*a.Den, a.Den*b.Den)
}

// CompareFrac compares two fractions.
func CompareFrac(a Frac, b Frac) int {
	if !ValidFrac(a) || !ValidFrac(b) {
		return 0
	}
	left := a.Num * b.Den
	right := b.Num * a.Den
	if left < right {
		return -1
	}
	if left > right {
		return 1
	}
	return 0
}

// SubFrac returns the difference of two fractions.
func SubFrac(a Frac, b Frac) (Frac, bool) {
	if !ValidFrac(a) || !ValidFrac(b) {
		return Frac{}, false
	}
	return reduced(a.Num*b.Den-b.Num*a.Den, a.Den*b.Den)
}

// MulFrac returns the product of two fractions.
func MulFrac(a Frac, b Frac) (Frac, bool) {
	if !ValidFrac(a) || !ValidFrac(b) {
		return Frac{}, false
	}
	return reduced(a.Num*b.Num, a.Den*b.Den)
}

// PartOf returns a part of a number.
func PartOf(n int, f Frac) int {
	if n < 0 || n > MaxAmount || !ValidFrac(f) {
		return -1
	}
	return n * f.Num / f.Den
}

// FormatFrac returns the text of a fraction.
func FormatFrac(f Frac) string {
	if !ValidFrac(f) {
		return ""
	}
	return decimal(f.Num) + "/" + decimal(f.Den)
}

// ParseFrac returns the fraction of a text.
func ParseFrac(s string) (Frac, bool) {
	at := indexOfByte(s, '/')
	if at < 0 {
		return Frac{}, false
	}
	f := Frac{Num: readNumber(s[:at]), Den: readNumber(s[at+1:])}
	// A part that is no number was read as -1, which no valid fraction has.
	if !ValidFrac(f) {
		return Frac{}, false
	}
	return f, true
}

// ValidWeights reports whether weights are valid.
func ValidWeights(list []int) bool {
	if len(list) < 1 || len(list) > MaxOwners || !allWithin(list, MaxWeight) {
		return false
	}
	return sumOf(list) > 0
}

// QuotasOf returns the parts of a number, rounded down.
func QuotasOf(n int, weights []int) []int {
	if !canSplit(n, weights) {
		return nil
	}
	total := sumOf(weights)
	quotas := make([]int, len(weights))
	for i, w := range weights {
		quotas[i] = n * w / total
	}
	return quotas
}

// SplitByRest returns units divided by the greatest remainders.
func SplitByRest(n int, weights []int) []int {
	if !canSplit(n, weights) {
		return nil
	}
	total := sumOf(weights)
	rests := make([]int, len(weights))
	for i, w := range weights {
		rests[i] = n * w % total
	}
	given := QuotasOf(n, weights)
	for left := n - sumOf(given); left > 0; left-- {
		at := greatestOf(rests)
		given[at] = given[at] + 1
		// Less than every remainder, so that no weight gets a second unit.
		rests[at] = -1
	}
	return given
}

// SplitByHighest returns units divided by the highest averages.
func SplitByHighest(n int, weights []int) []int {
	return splitByAverage(n, weights, 1)
}

// SplitByMiddle returns units divided by middle averages.
func SplitByMiddle(n int, weights []int) []int {
	return splitByAverage(n, weights, middleStep)
}

// DistanceOf returns how far a division is from the weights.
func DistanceOf(given []int, weights []int) int {
	if !ValidWeights(weights) || len(given) != len(weights) || !allWithin(given, MaxUnits) {
		return -1
	}
	units := sumOf(given)
	if units > MaxUnits {
		return -1
	}
	total := sumOf(weights)
	distance := 0
	for i, w := range weights {
		distance = distance + difference(given[i]*total, w*units)
	}
	return distance
}

// reduced returns the valid fraction n divided by d, for d of at least 1.
// Sums and products have denominators that MakeFrac does not take, so this asks for no limit of d.
func reduced(n int, d int) (Frac, bool) {
	if n < 0 || n > d {
		return Frac{}, false
	}
	divisor := commonDivisor(n, d)
	f := Frac{Num: n / divisor, Den: d / divisor}
	if f.Den > MaxDen {
		return Frac{}, false
	}
	return f, true
}

// commonDivisor returns the greatest number that divides both n and d, for n of at least 0 and d of at least 1.
func commonDivisor(n int, d int) int {
	// The rest is less each time, and never less than 0.
	for n > 0 {
		n, d = d%n, n
	}
	return d
}

// canSplit reports whether n units can be divided by weights.
func canSplit(n int, weights []int) bool {
	return n >= 0 && n <= MaxUnits && ValidWeights(weights)
}

// splitByAverage returns n units divided one by one, each to the greatest weight divided by 1 more than step times its units.
func splitByAverage(n int, weights []int, step int) []int {
	if !canSplit(n, weights) {
		return nil
	}
	given := make([]int, len(weights))
	for left := n; left > 0; left-- {
		at := highestAverage(weights, given, step)
		given[at] = given[at] + 1
	}
	return given
}

// highestAverage returns the index of the first of the weights that the next unit goes to.
func highestAverage(weights []int, given []int, step int) int {
	best := 0
	for i := range weights {
		// Averages are compared crosswise, as quotients would be rounded.
		if weights[i]*(step*given[best]+1) > weights[best]*(step*given[i]+1) {
			best = i
		}
	}
	return best
}

// greatestOf returns the index of the first of the greatest numbers.
func greatestOf(list []int) int {
	best := 0
	for i := range list {
		if list[i] > list[best] {
			best = i
		}
	}
	return best
}

// isWithin reports whether a number is in 0..most.
func isWithin(n int, most int) bool {
	return n >= 0 && n <= most
}

// allWithin reports whether each number is in 0..most.
func allWithin(list []int, most int) bool {
	for _, n := range list {
		if !isWithin(n, most) {
			return false
		}
	}
	return true
}

// sumOf returns the sum of numbers.
func sumOf(list []int) int {
	sum := 0
	for _, n := range list {
		sum = sum + n
	}
	return sum
}

// difference returns how far two numbers are apart.
func difference(a int, b int) int {
	if a < b {
		return b - a
	}
	return a - b
}

// indexOfByte returns the index of the first byte c, -1 if there is none.
func indexOfByte(s string, c byte) int {
	for i := 0; i < len(s); i++ {
		if s[i] == c {
			return i
		}
	}
	return -1
}

// decimal returns the text of a number of at least 0.
func decimal(n int) string {
	digits := "0123456789"
	text := digits[n%10 : n%10+1]
	for n >= 10 {
		n = n / 10
		text = digits[n%10:n%10+1] + text
	}
	return text
}

// readNumber returns the number whose decimal text is s, -1 if there is none of at most maxDigits digits.
func readNumber(s string) int {
	if len(s) < 1 || len(s) > maxDigits || (s[0] == '0' && len(s) > 1) {
		return -1
	}
	n := 0
	for i := 0; i < len(s); i++ {
		if s[i] < '0' || s[i] > '9' {
			return -1
		}
		n = n*10 + int(s[i]-'0')
	}
	return n
}
