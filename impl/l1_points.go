package impl

import (
	"slices"
	"strconv"
)

const MaxPoints = 1000000
const MaxPart = 1000000000000

// The bounds of chapter 1 that have no names in the document.
const (
	maxDivisor      = 1000000
	maxPointsInList = 60
	maxPercent      = 1000
	longestPoints   = len("-10000.00")
)

// PointsText returns the text of points.
func PointsText(n int) (string, bool) {
	if !arePoints(n) {
		return "", false
	}
	sign := ""
	if n < 0 {
		sign, n = "-", -n
	}
	tenths, hundredths := n/10%10, n%10
	return sign + strconv.Itoa(n/100) + "." + strconv.Itoa(tenths) + strconv.Itoa(hundredths), true
}

// ReadPoints returns the points with a text. It fails if there are none.
func ReadPoints(s string) (int, bool) {
	if len(s) > longestPoints {
		return 0, false
	}
	n, negative := 0, false
	for _, r := range s {
		switch {
		case r == '-':
			negative = true
		case r >= '0' && r <= '9':
			n = 10*n + int(r-'0')
		}
	}
	if negative {
		n = -n
	}
	// Only what PointsText writes is a text: this refuses needless zeros,
	// -0.00 and any byte at a wrong place.
	if text, ok := PointsText(n); !ok || text != s {
		return 0, false
	}
	return n, true
}

// RoundPart returns a fraction rounded by a mode.
func RoundPart(a int, b int, mode int) (int, bool) {
	if !isPart(a, b) || !isMode(mode) {
		return 0, false
	}
	return roundingOf(mode)(a, b), true
}

// LowestPart returns a fraction in lowest terms.
func LowestPart(a int, b int) (int, int, bool) {
	if !isPart(a, b) {
		return 0, 0, false
	}
	a, b = reduced(a, b)
	return a, b, true
}

// CompareParts returns -1, 0 or 1 if a / b is less than, equal to or greater than c / d.
func CompareParts(a int, b int, c int, d int) (int, bool) {
	if !isPart(a, b) || !isPart(c, d) {
		return 0, false
	}
	// The products are at most MaxPart * maxDivisor = 10^18, which an int holds.
	left, right := a*d, c*b
	switch {
	case left < right:
		return -1, true
	case left > right:
		return 1, true
	}
	return 0, true
}

// AddParts returns the sum a / b + c / d in lowest terms. It fails if this is no fraction.
func AddParts(a int, b int, c int, d int) (int, int, bool) {
	if !isPart(a, b) || !isPart(c, d) {
		return 0, 0, false
	}
	// The sum may be too large before it is reduced, and an int holds it even so.
	over, under := reduced(a*d+c*b, b*d)
	if !isPart(over, under) {
		return 0, 0, false
	}
	return over, under, true
}

// SumPoints returns the sum of a list. It fails if it is not in -MaxPoints..MaxPoints.
func SumPoints(l []int) (int, bool) {
	if !isPointsList(l) {
		return 0, false
	}
	sum := plainSum(l)
	if !arePoints(sum) {
		return 0, false
	}
	return sum, true
}

// MeanPoints returns the mean of a list, in lowest terms. It fails for an empty list.
func MeanPoints(l []int) (int, int, bool) {
	if !isPointsList(l) || len(l) == 0 {
		return 0, 0, false
	}
	// A mean of points is small even where their sum is not points any more.
	return LowestPart(plainSum(l), len(l))
}

// PercentOf returns points times percent, in 0..1000, divided by 100, rounded by a mode. It fails if the result is not in -MaxPoints..MaxPoints.
func PercentOf(n int, percent int, mode int) (int, bool) {
	if !arePoints(n) || percent < 0 || percent > maxPercent {
		return 0, false
	}
	part, ok := RoundPart(n*percent, 100, mode)
	if !ok || !arePoints(part) {
		return 0, false
	}
	return part, true
}

// SortedPoints returns the points of a list, the greatest ones first.
func SortedPoints(l []int) ([]int, bool) {
	if !isPointsList(l) {
		return nil, false
	}
	sorted := make([]int, len(l))
	copy(sorted, l)
	slices.SortFunc(sorted, func(a, b int) int { return b - a })
	return sorted, true
}

// PlaceOfPoints returns 1 plus the number of points of a list that are greater than given ones.
func PlaceOfPoints(l []int, n int) (int, bool) {
	if !isPointsList(l) || !arePoints(n) {
		return 0, false
	}
	place := 1
	for _, p := range l {
		if p > n {
			place++
		}
	}
	return place, true
}

func arePoints(n int) bool { return -MaxPoints <= n && n <= MaxPoints }

func isPart(a, b int) bool {
	return -MaxPart <= a && a <= MaxPart && 1 <= b && b <= maxDivisor
}

func isMode(mode int) bool { return -1 <= mode && mode <= 1 }

func isPointsList(l []int) bool {
	if len(l) > maxPointsInList {
		return false
	}
	for _, p := range l {
		if !arePoints(p) {
			return false
		}
	}
	return true
}

func plainSum(l []int) int {
	sum := 0
	for _, p := range l {
		sum += p
	}
	return sum
}

// roundingOf returns how fractions are rounded by a valid mode. Every mode is
// rounding down of a fraction that is moved up first, as / rounds towards 0.
func roundingOf(mode int) func(a, b int) int {
	switch mode {
	case 0:
		return func(a, b int) int { return floorPart(2*a+b, 2*b) }
	case 1:
		return func(a, b int) int { return floorPart(a+b-1, b) }
	}
	return floorPart
}

func floorPart(a, b int) int {
	n := a / b
	if a%b < 0 {
		n--
	}
	return n
}

// reduced returns a fraction with a positive b in lowest terms, however large it is.
func reduced(a, b int) (int, int) {
	x, y := a, b
	for y != 0 {
		x, y = y, x%y
	}
	if x < 0 {
		x = -x
	}
	return a / x, b / x
}
