package tests

import (
	"fmt"
	"math/big"
	"reflect"
	"slices"
	"testing"

	"loop.example/g00912/impl"
)

// areJudgeMarks tells whether a list are marks.
func areJudgeMarks(l []int) bool {
	for _, n := range l {
		if n < -1000 || n > 1000 {
			return false
		}
	}
	return len(l) >= 1 && len(l) <= 9
}

// plainTrimmed returns the trimmed sum of marks and how many it has.
func plainTrimmed(l []int) (int, int) {
	sum, least, greatest := 0, l[0], l[0]
	for _, n := range l {
		sum += n
		least = min(least, n)
		greatest = max(greatest, n)
	}
	if len(l) < 5 {
		return sum, len(l)
	}
	return sum - least - greatest, len(l) - 2
}

func plainMean(l []int) *big.Rat {
	sum, count := plainTrimmed(l)
	return big.NewRat(int64(sum), int64(count))
}

// plainRound rounds a fraction down, to the nearest integer or up.
func plainRound(r *big.Rat, mode int) int {
	switch mode {
	case 0:
		return plainRound(new(big.Rat).Add(r, big.NewRat(1, 2)), -1)
	case 1:
		return -plainRound(new(big.Rat).Neg(r), -1)
	}
	// Div of big numbers rounds down if the divisor is positive.
	return int(new(big.Int).Div(r.Num(), r.Denom()).Int64())
}

// isRatio tells whether a / b is a fraction as it is told in lowest terms.
func isRatio(a, b int, r *big.Rat) bool {
	return r.Num().IsInt64() && r.Num().Int64() == int64(a) && r.Denom().Int64() == int64(b)
}

// plainWith are the marks in which that of judge k is another one.
func plainWith(l []int, k, mark int) []int {
	l = slices.Clone(l)
	l[k] = mark
	return l
}

// plainRange returns the least and the greatest mean of all marks with one from low
// to high of judge k, and how far at the most they are from the mean: each mark is tried.
func plainRange(l []int, k, low, high int) (least, greatest, moved *big.Rat) {
	own, count := plainTrimmed(l)
	a, b, c := 1000000, -1000000, 0
	for mark := low; mark <= high; mark++ {
		sum, _ := plainTrimmed(plainWith(l, k, mark))
		a, b, c = min(a, sum), max(b, sum), max(c, sum-own, own-sum)
	}
	part := func(n int) *big.Rat { return big.NewRat(int64(n), int64(count)) }
	return part(a), part(b), part(c)
}

// plainIsTrimmed tries all marks on the side of a judge's own one.
func plainIsTrimmed(l []int, k int) bool {
	least, greatest := l[k] == slices.Min(l), l[k] == slices.Max(l)
	own, _ := plainTrimmed(l)
	for mark := -1000; mark <= 1000; mark++ {
		onSide := greatest && mark >= l[k] || least && mark <= l[k]
		if sum, _ := plainTrimmed(plainWith(l, k, mark)); onSide && sum != own {
			return false
		}
	}
	return len(l) >= 5 && (least || greatest)
}

// mixedList are n marks that differ from one seed to the next one, from -bound to bound.
func mixedList(seed, n, bound int) []int {
	next := mixing(seed)
	l := make([]int, n)
	for i := range l {
		l[i] = next(2*bound+1) - bound
	}
	return l
}

// everyList calls a function with all lists of n marks from low to high.
func everyList(n, low, high int, do func(l []int)) {
	l := repeated(low, n)
	for {
		do(slices.Clone(l))
		k := 0
		for k < n && l[k] == high {
			l[k] = low
			k++
		}
		if k == n {
			return
		}
		l[k]++
	}
}

// trimLists calls a function with marks of all numbers of judges: few different ones, many, equal ones, and those at the bounds.
func trimLists(do func(l []int)) {
	do([]int{1, 5, 5, 9, 2})
	for n := 1; n <= 9; n++ {
		for seed := range 4 {
			for _, bound := range []int{1, 3, 10, 200, 1000} {
				do(mixedList(100*n+seed, n, bound))
			}
		}
		for _, mark := range []int{-1000, -999, -7, 0, 7, 999, 1000} {
			do(repeated(mark, n))
			do(plainWith(repeated(mark, n), n/2, 1000))
			do(plainWith(repeated(mark, n), n-1, -1000))
		}
	}
}

// someRanges are marks from low to high that a judge with a mark may give instead.
func someRanges(own int) [][2]int {
	ranges := [][2]int{{-1000, 1000}, {-1000, -1000}, {1000, 1000}, {own, own}, {-1000, own}, {own, 1000}, {0, 0}, {-5, 5}}
	for _, r := range [][2]int{{own + 1, own + 4}, {own - 4, own - 1}, {own - 1, own + 1}, {own - 2, own + 7}, {own - 7, own + 2}} {
		if r[0] >= -1000 && r[1] <= 1000 {
			ranges = append(ranges, r)
		}
	}
	return ranges
}

// badJudgeMarks are lists that are no marks, each for one reason.
func badJudgeMarks() map[string][]int {
	bad := map[string][]int{
		"nil": nil, "none": {}, "10 marks": repeated(5, 10), "11 marks": {1, 2, 3, 4, 5, 6, 7, 8, 9, 10, 11}, "100000 marks": repeated(0, 100000),
	}
	for n := 1; n <= 9; n++ {
		for k := range n {
			for _, mark := range []int{-1001, 1001} {
				bad[fmt.Sprint(mark, " at ", k, " of ", n)] = plainWith(mixedList(n, n, 1000), k, mark)
			}
		}
	}
	for _, mark := range wild {
		if mark < -1000 || mark > 1000 {
			for n := 1; n <= 9; n++ {
				bad[fmt.Sprint(n, " times ", mark)] = repeated(mark, n)
			}
			bad[fmt.Sprint(mark, " first")] = []int{mark, 1, 2, 3, 4}
			bad[fmt.Sprint(mark, " last")] = []int{1, 2, 3, 4, 5, mark}
		}
	}
	return bad
}

// trimAnswers are those of all functions with a list, for all judges of nine.
func trimAnswers(l []int) map[string]answer {
	answers := map[string]answer{}
	add := func(what string, value any, ok bool) { answers[what] = answer{value, ok} }
	is := impl.AreMarksOf(l)
	add("AreMarksOf", is, is)
	a, b, ok := impl.TrimmedSum(l)
	add("TrimmedSum", [2]int{a, b}, ok)
	a, b, ok = impl.TrimmedMean(l)
	add("TrimmedMean", [2]int{a, b}, ok)
	a, b, ok = impl.MiddleOf(l)
	add("MiddleOf", [2]int{a, b}, ok)
	for mode := -1; mode <= 1; mode++ {
		n, ok := impl.TrimmedPoints(l, 7, 3, mode)
		add(fmt.Sprint("TrimmedPoints by ", mode), n, ok)
	}
	for k := range 9 {
		of := fmt.Sprint(" of ", k)
		n, ok := impl.OrderOf(l, k)
		add("OrderOf"+of, n, ok)
		shorter, ok := impl.WithoutMark(l, k)
		add("WithoutMark"+of, shorter, ok)
		changed, ok := impl.WithMark(l, k, 12)
		add("WithMark"+of, changed, ok)
		a, b, c, d, ok := impl.MeanRange(l, k, -20, 30)
		add("MeanRange"+of, [4]int{a, b, c, d}, ok)
		a, b, ok = impl.MostMoved(l, k, -20, 30)
		add("MostMoved"+of, [2]int{a, b}, ok)
		is, ok := impl.IsTrimmed(l, k)
		add("IsTrimmed"+of, is, ok)
	}
	return answers
}

// checkNoTrims checks that all functions fail for a list that are no marks.
func checkNoTrims(t *testing.T, what string, l []int) {
	t.Helper()
	calm(t, what, func() {
		for name, a := range trimAnswers(l) {
			if a.ok || !isNothing(reflect.ValueOf(a.value)) {
				t.Errorf("%s: %s = %.300s, %v", what, name, fmt.Sprint(a.value), a.ok)
			}
		}
	})
}

// checkTrims checks what is told of marks as a whole and of their order.
func checkTrims(t *testing.T, l []int) {
	t.Helper()
	if !impl.AreMarksOf(l) {
		t.Errorf("%v are no marks", l)
	}
	sum, count := plainTrimmed(l)
	if a, b, ok := impl.TrimmedSum(l); a != sum || b != count || !ok {
		t.Errorf("TrimmedSum of %v = %d, %d, %v; want %d, %d", l, a, b, ok, sum, count)
	}
	if a, b, ok := impl.TrimmedMean(l); !isRatio(a, b, plainMean(l)) || !ok {
		t.Errorf("TrimmedMean of %v = %d / %d, %v; want %v", l, a, b, ok, plainMean(l))
	}
	ordered := slices.Sorted(slices.Values(l))
	for k := -1; k <= len(l); k++ {
		want, good := 0, k >= 0 && k < len(l)
		if good {
			want = ordered[k]
		}
		if n, ok := impl.OrderOf(l, k); n != want || ok != good {
			t.Errorf("OrderOf %d of %v = %d, %v; want %d", k, l, n, ok, want)
		}
	}
	n := len(l)
	middle := big.NewRat(int64(ordered[n/2]), 1)
	if n%2 == 0 {
		middle = big.NewRat(int64(ordered[n/2-1]+ordered[n/2]), 2)
	}
	if a, b, ok := impl.MiddleOf(l); !isRatio(a, b, middle) || !ok {
		t.Errorf("MiddleOf %v = %d / %d, %v; want %v", l, a, b, ok, middle)
	}
}

// checkOneMark checks what is told of the mark of judge k.
func checkOneMark(t *testing.T, l []int, k int) {
	t.Helper()
	shorter := slices.Delete(slices.Clone(l), k, k+1)
	if x, ok := impl.WithoutMark(l, k); !slices.Equal(x, shorter) || ok != (len(l) > 1) {
		t.Errorf("WithoutMark %d of %v = %v, %v", k, l, x, ok)
	}
	for _, mark := range []int{-1000, -1, 0, 1, l[k], 999, 1000} {
		if x, ok := impl.WithMark(l, k, mark); !slices.Equal(x, plainWith(l, k, mark)) || !ok {
			t.Errorf("WithMark %d of %v, %d = %v, %v", k, l, mark, x, ok)
		}
	}
	if is, ok := impl.IsTrimmed(l, k); is != plainIsTrimmed(l, k) || !ok {
		t.Errorf("IsTrimmed %d of %v = %v, %v", k, l, is, ok)
	}
	for _, r := range someRanges(l[k]) {
		checkRange(t, l, k, r[0], r[1])
	}
}

// checkRange checks MeanRange and MostMoved.
func checkRange(t *testing.T, l []int, k, low, high int) {
	t.Helper()
	least, greatest, moved := plainRange(l, k, low, high)
	if a, b, c, d, ok := impl.MeanRange(l, k, low, high); !isRatio(a, b, least) || !isRatio(c, d, greatest) || !ok {
		t.Errorf("MeanRange %d of %v, %d to %d = %d / %d, %d / %d, %v; want %v, %v", k, l, low, high, a, b, c, d, ok, least, greatest)
	}
	if a, b, ok := impl.MostMoved(l, k, low, high); !isRatio(a, b, moved) || !ok {
		t.Errorf("MostMoved %d of %v, %d to %d = %d / %d, %v; want %v", k, l, low, high, a, b, ok, moved)
	}
}

func TestTrimExample(t *testing.T) {
	l := []int{1, 5, 5, 9, 2}
	if a, b, ok := impl.TrimmedSum(l); a != 12 || b != 3 || !ok {
		t.Error("TrimmedSum", a, b, ok)
	}
	if a, b, ok := impl.TrimmedMean(l); a != 4 || b != 1 || !ok {
		t.Error("TrimmedMean", a, b, ok)
	}
	if a, b, c, d, ok := impl.MeanRange(l, 0, 1, 9); a != 4 || b != 1 || c != 19 || d != 3 || !ok {
		t.Error("MeanRange", a, b, c, d, ok)
	}
	if a, b, ok := impl.MostMoved(l, 0, 1, 9); a != 7 || b != 3 || !ok {
		t.Error("MostMoved", a, b, ok)
	}
}

func TestAreMarksOf(t *testing.T) {
	for n := range 12 {
		for _, mark := range []int{-1000, -999, 0, 999, 1000} {
			if is := impl.AreMarksOf(repeated(mark, n)); is != (n >= 1 && n <= 9) {
				t.Errorf("%d times %d: %v", n, mark, is)
			}
		}
		if is := impl.AreMarksOf(mixedList(n, n, 1000)); is != (n >= 1 && n <= impl.MaxJudges) {
			t.Errorf("%d marks: %v", n, is)
		}
	}
	for what, l := range badJudgeMarks() {
		if impl.AreMarksOf(l) {
			t.Errorf("%s: %.200s are marks", what, fmt.Sprint(l))
		}
	}
}

// Of five or more marks one greatest and one least are left out, of fewer none.
func TestTrimmedSum(t *testing.T) {
	for _, c := range []struct {
		l          []int
		sum, count int
	}{
		{[]int{7}, 7, 1}, {[]int{-1000}, -1000, 1}, {[]int{0}, 0, 1}, {[]int{3, 4}, 7, 2}, {[]int{-3, 3}, 0, 2}, {[]int{9, 1, 2}, 12, 3},
		{[]int{1, 2, 3, 10}, 16, 4}, {[]int{1000, 1000, 1000, 1000}, 4000, 4}, {[]int{-1000, -1000, -1000, -1000}, -4000, 4},
		{[]int{1, 2, 3, 10, 20}, 15, 3}, {[]int{20, 3, 10, 2, 1}, 15, 3}, {[]int{3, 20, 2, 1, 10}, 15, 3}, {[]int{-1, -2, -3, -10, -20}, -15, 3},
		{[]int{4, 4, 4, 4, 4}, 12, 3}, {[]int{0, 0, 0, 0, 0}, 0, 3}, {[]int{-4, -4, -4, -4, -4, -4}, -16, 4},
		{[]int{9, 9, 9, 1, 2}, 20, 3}, {[]int{9, 1, 1, 1, 2}, 4, 3}, {[]int{9, 9, 1, 1, 9}, 19, 3}, {[]int{9, 1, 1, 1, 1}, 3, 3}, {[]int{9, 9, 1, 9, 9}, 27, 3},
		{[]int{1, 2, 3, 4, 5, 6}, 14, 4}, {[]int{-5, 5, -3, 3, 1, -1, 0}, 0, 5}, {[]int{8, 7, 6, 5, 4, 3, 2, 1}, 27, 6},
		{[]int{1, 2, 4, 8, 16, 32, 64, 128, 256}, 254, 7}, {repeated(1000, 9), 7000, 7}, {repeated(-1000, 9), -7000, 7},
		{[]int{-1000, 1000, -1000, 1000, -1000}, -1000, 3}, {[]int{1000, -1000, 1000, -1000, 1000, -1000}, 0, 4},
	} {
		if a, b, ok := impl.TrimmedSum(c.l); a != c.sum || b != c.count || !ok {
			t.Errorf("TrimmedSum of %v = %d, %d, %v; want %d, %d", c.l, a, b, ok, c.sum, c.count)
		}
	}
}

// The sums are 0 and negative ones, too, and have common divisors with their numbers of marks or none.
func TestTrimmedMean(t *testing.T) {
	for _, c := range []struct {
		l    []int
		a, b int
	}{
		{[]int{7}, 7, 1}, {[]int{-7}, -7, 1}, {[]int{0}, 0, 1}, {[]int{-3, 3}, 0, 1}, {[]int{3, 4}, 7, 2}, {[]int{-3, -4}, -7, 2}, {[]int{-2, -4}, -3, 1},
		{[]int{0, 0, -1}, -1, 3}, {[]int{0, 0, -3}, -1, 1}, {[]int{-1, -1, -4}, -2, 1}, {[]int{1, 1, 0, 0}, 1, 2}, {[]int{-1, -1, 0, 0}, -1, 2}, {[]int{-1, 0, 0, 0}, -1, 4},
		{[]int{5, -5, 0, 0}, 0, 1}, {[]int{5, -5, 0, 0, 0}, 0, 1}, {[]int{9, -1, 1, 0, -9}, 0, 1}, {[]int{9, -1, -1, 0, -9}, -2, 3}, {[]int{9, -1, -1, -1, -9}, -1, 1},
		{[]int{9, 1, 1, 0, 0, -9}, 1, 2}, {[]int{9, -3, -3, 0, 0, -9}, -3, 2}, {[]int{9, 1, 1, 1, 1, 0, -9}, 4, 5}, {[]int{9, -2, -2, -2, 0, 0, 0, -9}, -1, 1},
		{[]int{9, 2, 2, 0, 0, 0, 0, -9}, 2, 3}, {[]int{9, 7, 7, -7, 0, 0, 0, 0, -9}, 1, 1}, {repeated(-1000, 9), -1000, 1}, {repeated(1000, 9), 1000, 1}, {repeated(1000, 4), 1000, 1},
	} {
		if a, b, ok := impl.TrimmedMean(c.l); a != c.a || b != c.b || !ok {
			t.Errorf("TrimmedMean of %v = %d / %d, %v; want %d / %d", c.l, a, b, ok, c.a, c.b)
		}
	}
}

func TestTrimmedPoints(t *testing.T) {
	for _, c := range []struct {
		l                         []int
		factor, parts             int
		roundedDown, rounded, top int
	}{
		{[]int{1}, 1, 2, 0, 1, 1}, {[]int{-1}, 1, 2, -1, 0, 0}, {[]int{3}, 1, 2, 1, 2, 2}, {[]int{-3}, 1, 2, -2, -1, -1},
		{[]int{1, 2}, 1, 1, 1, 2, 2}, {[]int{-1, -2}, 1, 1, -2, -1, -1}, {[]int{-1, 0}, 1, 1, -1, 0, 0}, {[]int{-1, -4}, 1, 1, -3, -2, -2},
		{[]int{1, 0, 0}, 1, 1, 0, 0, 1}, {[]int{1, 1, 0}, 1, 1, 0, 1, 1}, {[]int{-1, 0, 0}, 1, 1, -1, 0, 0}, {[]int{-1, -1, 0}, 1, 1, -1, -1, 0},
		// The mean is not rounded before it is multiplied and divided.
		{[]int{1, 2}, 10, 1, 15, 15, 15}, {[]int{1, 0, 0}, 3, 1, 1, 1, 1}, {[]int{1, 0, 0}, 1000, 3, 111, 111, 112}, {[]int{9, 2, 1, 1, -9}, 6, 8, 1, 1, 1}, {[]int{9, 2, 1, 2, -9}, 1, 5, 0, 0, 1},
		{[]int{1, 2, 2, 3, 5}, 100, 10, 23, 23, 24}, {[]int{5, 5, 5, 5}, 1, 10, 0, 1, 1}, {[]int{-5, -5, -5, -5}, 1, 10, -1, 0, 0},
		{[]int{1, 2, 3}, 0, 1, 0, 0, 0}, {[]int{1, 2, 3}, 0, 1000, 0, 0, 0}, {[]int{-1, -2, -3}, 0, 7, 0, 0, 0}, {[]int{0, 0, 0}, 10000, 1, 0, 0, 0},
		{[]int{1}, 1, 1000, 0, 0, 1}, {[]int{-1}, 1, 1000, -1, 0, 0}, {[]int{1}, 500, 1000, 0, 1, 1}, {[]int{-1}, 500, 1000, -1, 0, 0}, {[]int{1}, 499, 1000, 0, 0, 1}, {[]int{-1}, 501, 1000, -1, -1, 0},
		{[]int{1}, 10000, 1, 10000, 10000, 10000}, {[]int{1000}, 10000, 1, 10000000, 10000000, 10000000}, {repeated(-1000, 9), 10000, 1, -10000000, -10000000, -10000000},
		{repeated(1000, 9), 10000, 1000, 10000, 10000, 10000}, {[]int{-999}, 9999, 1000, -9990, -9989, -9989},
	} {
		for mode, want := range map[int]int{-1: c.roundedDown, 0: c.rounded, 1: c.top} {
			if n, ok := impl.TrimmedPoints(c.l, c.factor, c.parts, mode); n != want || !ok {
				t.Errorf("TrimmedPoints of %v, %d, %d, %d = %d, %v; want %d", c.l, c.factor, c.parts, mode, n, ok, want)
			}
		}
	}
}

func TestTrimmedPointsOfMixedMarks(t *testing.T) {
	trimLists(func(l []int) {
		for _, factor := range []int{-1, 0, 1, 2, 50, 333, 9999, 10000, 10001} {
			for _, parts := range []int{-1, 0, 1, 2, 3, 10, 100, 999, 1000, 1001} {
				for mode := -2; mode <= 2; mode++ {
					want, good := 0, factor >= 0 && factor <= 10000 && parts >= 1 && parts <= 1000 && isMode(mode)
					if good {
						want = plainRound(new(big.Rat).Mul(plainMean(l), big.NewRat(int64(factor), int64(parts))), mode)
					}
					if n, ok := impl.TrimmedPoints(l, factor, parts, mode); n != want || ok != good {
						t.Errorf("TrimmedPoints of %v, %d, %d, %d = %d, %v; want %d", l, factor, parts, mode, n, ok, want)
					}
				}
			}
		}
	})
}

func TestOrderOf(t *testing.T) {
	for _, c := range []struct{ l, ordered []int }{
		{[]int{7}, []int{7}}, {[]int{2, 1}, []int{1, 2}}, {[]int{5, -5, 0}, []int{-5, 0, 5}}, {[]int{1, 5, 5, 9, 2}, []int{1, 2, 5, 5, 9}},
		{[]int{4, 4, 4}, []int{4, 4, 4}}, {[]int{1000, -1000, 10, 9, -10, -9, 100, 99, 0}, []int{-1000, -10, -9, 0, 9, 10, 99, 100, 1000}},
	} {
		for k, want := range c.ordered {
			if n, ok := impl.OrderOf(c.l, k); n != want || !ok {
				t.Errorf("OrderOf %d of %v = %d, %v; want %d", k, c.l, n, ok, want)
			}
		}
		for _, k := range []int{-1, len(c.l), len(c.l) + 1, 9, -len(c.l)} {
			if n, ok := impl.OrderOf(c.l, k); n != 0 || ok {
				t.Errorf("OrderOf %d of %v = %d, %v", k, c.l, n, ok)
			}
		}
	}
}

func TestMiddleOf(t *testing.T) {
	for _, c := range []struct {
		l    []int
		a, b int
	}{
		{[]int{7}, 7, 1}, {[]int{-7}, -7, 1}, {[]int{0}, 0, 1}, {[]int{9, 1, 2}, 2, 1}, {[]int{1, 5, 5, 9, 2}, 5, 1}, {[]int{9, -8, 7, -6, 5, -4, 3}, 3, 1},
		{[]int{1, 2, 3, 4, 100, 200, 300, 400, 500}, 100, 1}, {[]int{1, 2}, 3, 2}, {[]int{-1, -2}, -3, 2}, {[]int{1, 3}, 2, 1}, {[]int{-1, -3}, -2, 1}, {[]int{4, 4}, 4, 1},
		{[]int{-5, 5}, 0, 1}, {[]int{0, 0}, 0, 1}, {[]int{9, 1, 2, 5}, 7, 2}, {[]int{900, -3, 3, -900}, 0, 1}, {[]int{0, 1, -1, 0, 7, 9}, 1, 2}, {[]int{8, 7, 6, 5, 4, 3, 2, 1}, 9, 2},
		{[]int{-8, -7, -6, -5, -4, -3, -2, -1}, -9, 2}, {[]int{1000, 1000}, 1000, 1}, {[]int{-1000, -1000, -1000, -1000}, -1000, 1}, {[]int{999, 1000}, 1999, 2},
	} {
		if a, b, ok := impl.MiddleOf(c.l); a != c.a || b != c.b || !ok {
			t.Errorf("MiddleOf %v = %d / %d, %v; want %d / %d", c.l, a, b, ok, c.a, c.b)
		}
	}
}

func TestWithoutMark(t *testing.T) {
	for _, c := range []struct {
		l    []int
		k    int
		want []int
		ok   bool
	}{
		{[]int{7}, 0, nil, false}, {[]int{7, 8}, 0, []int{8}, true}, {[]int{7, 8}, 1, []int{7}, true},
		{[]int{1, 5, 5, 9, 2}, 0, []int{5, 5, 9, 2}, true}, {[]int{1, 5, 5, 9, 2}, 2, []int{1, 5, 9, 2}, true}, {[]int{1, 5, 5, 9, 2}, 4, []int{1, 5, 5, 9}, true},
		{[]int{1, 5, 5, 9, 2}, 5, nil, false}, {[]int{1, 5, 5, 9, 2}, -1, nil, false}, {[]int{7}, 1, nil, false}, {[]int{7}, -1, nil, false},
		{[]int{1, 2, 3, 4, 5, 6, 7, 8, 9}, 0, []int{2, 3, 4, 5, 6, 7, 8, 9}, true}, {[]int{1, 2, 3, 4, 5, 6, 7, 8, 9}, 8, []int{1, 2, 3, 4, 5, 6, 7, 8}, true},
	} {
		if x, ok := impl.WithoutMark(c.l, c.k); !slices.Equal(x, c.want) || ok != c.ok {
			t.Errorf("WithoutMark %d of %v = %v, %v; want %v", c.k, c.l, x, ok, c.want)
		}
	}
	// Of the four marks that are left of five none is left out.
	four, ok := impl.WithoutMark([]int{1, 5, 5, 9, 2}, 1)
	if a, b, good := impl.TrimmedSum(four); a != 17 || b != 4 || !ok || !good {
		t.Errorf("the trimmed sum of %v is %d of %d marks", four, a, b)
	}
}

func TestWithMark(t *testing.T) {
	l := []int{1, 5, 5, 9, 2}
	for _, mark := range []int{-1001, -1000, -999, -1, 0, 1, 999, 1000, 1001} {
		for k := -1; k <= 5; k++ {
			good := mark >= -1000 && mark <= 1000 && k >= 0 && k < 5
			var want []int
			if good {
				want = plainWith(l, k, mark)
			}
			if x, ok := impl.WithMark(l, k, mark); !slices.Equal(x, want) || ok != good {
				t.Errorf("WithMark %d, %d = %v, %v; want %v", k, mark, x, ok, want)
			}
		}
	}
	if x, ok := impl.WithMark([]int{7}, 0, -8); !slices.Equal(x, []int{-8}) || !ok {
		t.Errorf("WithMark of the only mark = %v, %v", x, ok)
	}
	if x, ok := impl.WithMark(l, 3, 9); !slices.Equal(x, l) || !ok {
		t.Errorf("WithMark with the mark that is there = %v, %v", x, ok)
	}
}

// Judge 0 gives the least mark, judge 1 one in the middle, and judge 2 the greatest one.
func TestMeanRange(t *testing.T) {
	one, four, five, six := []int{5}, []int{1, 5, 9, 3}, []int{1, 5, 9, 3, 6}, []int{1, 5, 9, 3, 6, 6}
	for _, c := range []struct {
		l            []int
		k, low, high int
		a, b, c, d   int
	}{
		{one, 0, -1000, 1000, -1000, 1, 1000, 1}, {one, 0, -3, 8, -3, 1, 8, 1}, {one, 0, 0, 0, 0, 1, 0, 1}, {one, 0, 1000, 1000, 1000, 1, 1000, 1}, {one, 0, -1000, -1000, -1000, 1, -1000, 1},
		{four, 0, 1, 9, 9, 2, 13, 2}, {four, 1, 0, 10, 13, 4, 23, 4}, {four, 2, -9, 9, 0, 1, 9, 2}, {four, 3, -1000, 1000, -985, 4, 1015, 4}, {four, 1, 5, 5, 9, 2, 9, 2}, {four, 1, 6, 6, 19, 4, 19, 4},
		{five, 0, -1000, 1000, 14, 3, 20, 3}, {five, 0, -1000, 3, 14, 3, 14, 3}, {five, 0, 4, 5, 5, 1, 16, 3}, {five, 0, 2, 2, 14, 3, 14, 3},
		{five, 1, -1000, 1000, 10, 3, 6, 1}, {five, 1, 1, 9, 10, 3, 6, 1}, {five, 1, 2, 8, 11, 3, 17, 3}, {five, 1, 5, 5, 14, 3, 14, 3}, {five, 1, 1000, 1000, 6, 1, 6, 1}, {five, 1, -1000, -1000, 10, 3, 10, 3},
		{five, 2, -1000, 1000, 3, 1, 14, 3}, {five, 2, 6, 1000, 14, 3, 14, 3}, {five, 2, -1000, 1, 3, 1, 3, 1}, {five, 2, 2, 4, 10, 3, 4, 1}, {five, 2, 9, 9, 14, 3, 14, 3},
		{six, 0, -1000, 1000, 5, 1, 13, 2}, {six, 1, 0, 10, 4, 1, 6, 1}, {six, 2, 0, 10, 15, 4, 5, 1}, {[]int{-5, -5, -5, -5, -5}, 2, -1000, 1000, -5, 1, -5, 1},
		{[]int{-9, 0, 1, -1, 9}, 3, -9, 9, -8, 3, 10, 3}, {[]int{-9, 0, 1, -1, 9}, 3, -1, -1, 0, 1, 0, 1}, {[]int{0, 0, 0}, 1, -1000, 1000, -1000, 3, 1000, 3},
		{[]int{-1000, -1000, 1000, 1000, 0}, 4, -1000, 1000, -1000, 3, 1000, 3},
	} {
		if a, b, x, y, ok := impl.MeanRange(c.l, c.k, c.low, c.high); a != c.a || b != c.b || x != c.c || y != c.d || !ok {
			t.Errorf("MeanRange %d of %v, %d to %d = %d / %d, %d / %d, %v; want %d / %d, %d / %d", c.k, c.l, c.low, c.high, a, b, x, y, ok, c.a, c.b, c.c, c.d)
		}
	}
}

func TestMostMoved(t *testing.T) {
	four, five := []int{1, 5, 9, 3}, []int{1, 5, 9, 3, 6}
	for _, c := range []struct {
		l            []int
		k, low, high int
		a, b         int
	}{
		// Only up, and by the greatest or by the least mark of the range.
		{five, 0, 1, 9, 2, 1}, {five, 0, -1000, 1000, 2, 1}, {five, 0, 3, 4, 1, 3}, {five, 1, 5, 7, 2, 3}, {five, 1, 6, 8, 1, 1}, {[]int{5}, 0, 7, 9, 4, 1}, {four, 3, 4, 6, 3, 4},
		// Only down.
		{five, 2, 1, 9, 5, 3}, {five, 2, -1000, 1000, 5, 3}, {five, 2, 4, 5, 2, 3}, {five, 1, 2, 5, 1, 1}, {five, 1, 2, 4, 1, 1}, {[]int{5}, 0, -7, 4, 12, 1}, {four, 3, 0, 2, 3, 4},
		// Both ways, more up, more down and as far.
		{five, 1, 4, 8, 1, 1}, {five, 1, 2, 6, 1, 1}, {five, 1, 3, 7, 2, 3}, {five, 1, -1000, 1000, 4, 3}, {four, 1, 0, 10, 5, 4}, {four, 1, 4, 10, 5, 4}, {four, 1, -1, 7, 3, 2}, {[]int{5}, 0, -1000, 1000, 1005, 1}, {[]int{-5}, 0, -1000, 1000, 1005, 1},
		// Not at all.
		{five, 1, 5, 5, 0, 1}, {five, 0, -1000, 3, 0, 1}, {five, 2, 6, 1000, 0, 1}, {repeated(4, 5), 3, -1000, 1000, 0, 1}, {four, 2, 9, 9, 0, 1}, {[]int{0}, 0, 0, 0, 0, 1}, {[]int{1, 2, 2, 2, 5}, 2, 2, 2, 0, 1},
		{[]int{1000}, 0, -1000, -1000, 2000, 1}, {[]int{-1000}, 0, 1000, 1000, 2000, 1}, {[]int{-1000, -1000, 1000, 1000, -1000}, 4, -1000, 1000, 2000, 3}, {[]int{-1000, -1000, 1000, 1000}, 0, -1000, 1000, 500, 1},
	} {
		if a, b, ok := impl.MostMoved(c.l, c.k, c.low, c.high); a != c.a || b != c.b || !ok {
			t.Errorf("MostMoved %d of %v, %d to %d = %d / %d, %v; want %d / %d", c.k, c.l, c.low, c.high, a, b, ok, c.a, c.b)
		}
	}
}

// A range has its low end at or below its high one, and both are marks.
func TestRangesThatAreNone(t *testing.T) {
	ends := []int{-1001, -1000, -999, -1, 0, 1, 5, 999, 1000, 1001}
	for _, l := range [][]int{{5}, {1, 5, 9, 3}, {1, 5, 9, 3, 6}, repeated(5, 9)} {
		for k := -1; k <= len(l); k++ {
			for _, low := range ends {
				for _, high := range ends {
					good := k >= 0 && k < len(l) && low >= -1000 && low <= high && high <= 1000
					if good {
						checkRange(t, l, k, low, high)
						continue
					}
					if a, b, c, d, ok := impl.MeanRange(l, k, low, high); a != 0 || b != 0 || c != 0 || d != 0 || ok {
						t.Errorf("MeanRange %d of %v, %d to %d = %d / %d, %d / %d, %v", k, l, low, high, a, b, c, d, ok)
					}
					if a, b, ok := impl.MostMoved(l, k, low, high); a != 0 || b != 0 || ok {
						t.Errorf("MostMoved %d of %v, %d to %d = %d / %d, %v", k, l, low, high, a, b, ok)
					}
				}
			}
		}
	}
}

// The texts have for each judge a y if the mark is trimmed.
func TestIsTrimmed(t *testing.T) {
	for _, c := range []struct {
		l    []int
		want string
	}{
		{[]int{5}, "-"}, {[]int{1, 9}, "--"}, {[]int{1, 5, 9}, "---"}, {[]int{1, 5, 9, 3}, "----"}, {[]int{4, 4, 4, 4}, "----"},
		{[]int{1, 5, 9, 3, 6}, "y-y--"}, {[]int{1, 5, 5, 9, 2}, "y--y-"}, {[]int{9, 5, 9, 3, 6}, "y-yy-"}, {[]int{1, 5, 1, 1, 9}, "y-yyy"}, {[]int{1, 9, 1, 9, 9}, "yyyyy"}, {[]int{1, 9, 5, 9, 9}, "yy-yy"},
		{[]int{4, 4, 4, 4, 4}, "yyyyy"}, {[]int{-4, -4, -4, -4, -5, -3}, "----yy"}, {[]int{0, 0, 0, 0, 0, 1}, "yyyyyy"}, {[]int{1, 2, 3, 4, 5, 6, 7, 8, 9}, "y-------y"},
		{[]int{1000, 1000, 999, -999, -1000}, "yy--y"}, {repeated(1000, 9), "yyyyyyyyy"}, {[]int{-1000, 0, 0, 0, 0, 0, 1000}, "y-----y"},
	} {
		for k := range c.l {
			if is, ok := impl.IsTrimmed(c.l, k); is != (c.want[k] == 'y') || !ok {
				t.Errorf("IsTrimmed %d of %v = %v, %v", k, c.l, is, ok)
			}
		}
		for _, k := range []int{-1, len(c.l), 9} {
			if is, ok := impl.IsTrimmed(c.l, k); is || ok {
				t.Errorf("IsTrimmed %d of %v = %v, %v", k, c.l, is, ok)
			}
		}
	}
}

// All lists of few different marks, so that there are ties of each kind.
func TestTrimsOfEveryShortList(t *testing.T) {
	for n := 1; n <= 6; n++ {
		everyList(n, -1, 2, func(l []int) {
			checkTrims(t, l)
			for k := range l {
				checkRange(t, l, k, -2, 3)
				checkRange(t, l, k, l[k]-1, l[k])
				checkRange(t, l, k, l[k], l[k]+2)
			}
		})
	}
	for n := 1; n <= 5; n++ {
		everyList(n, 0, 2, func(l []int) {
			for k := range l {
				checkOneMark(t, l, k)
			}
		})
	}
}

func TestTrimsOfMixedMarks(t *testing.T) {
	trimLists(func(l []int) {
		checkTrims(t, l)
		for k := range l {
			checkOneMark(t, l, k)
		}
	})
}

// The mean, the middle and the elements of the order stand in the order in which they must.
func TestPromise10TrimmedMeansLieBetweenMarks(t *testing.T) {
	check := func(l []int) {
		a, b, ok := impl.TrimmedMean(l)
		c, d, good := impl.MiddleOf(l)
		least, ok1 := impl.OrderOf(l, 0)
		greatest, ok2 := impl.OrderOf(l, len(l)-1)
		if !ok || !good || !ok1 || !ok2 {
			t.Fatalf("a call with %v fails", l)
		}
		if a < least*b || a > greatest*b || c < least*d || c > greatest*d {
			t.Errorf("%v: the mean is %d / %d, the middle %d / %d", l, a, b, c, d)
		}
		if second, ok := impl.OrderOf(l, 1); ok && len(l) >= 5 {
			// Of five marks or more only those in the middle make the mean.
			last, _ := impl.OrderOf(l, len(l)-2)
			if a < second*b || a > last*b {
				t.Errorf("%v: the mean is %d / %d, not from %d to %d", l, a, b, second, last)
			}
		}
		down, _ := impl.TrimmedPoints(l, 1, 1, -1)
		near, _ := impl.TrimmedPoints(l, 1, 1, 0)
		up, _ := impl.TrimmedPoints(l, 1, 1, 1)
		if down < least || near < down || up < near || greatest < up || down*b > a || up*b < a {
			t.Errorf("%v: the mean %d / %d is rounded to %d, %d and %d", l, a, b, down, near, up)
		}
	}
	trimLists(check)
	for n := 1; n <= 7; n++ {
		everyList(n, -1, 1, check)
	}
}

// Each mark from low to high moves the mean by no more than told, and one moves it as far; none leads out of the range, and one leads to each end.
func TestPromise10OneMarkMovesMeansByNoMoreThanTold(t *testing.T) {
	check := func(l []int, k, low, high int) {
		p, q, ok := impl.MostMoved(l, k, low, high)
		a, b, c, d, good := impl.MeanRange(l, k, low, high)
		if !ok || !good {
			t.Fatalf("a call with %v, %d, %d, %d fails", l, k, low, high)
		}
		x, y, _ := impl.TrimmedMean(l)
		own, most, least, greatest := big.NewRat(int64(x), int64(y)), new(big.Rat), big.NewRat(5000, 1), big.NewRat(-5000, 1)
		for mark := low; mark <= high; mark++ {
			other, ok := impl.WithMark(l, k, mark)
			x, y, good := impl.TrimmedMean(other)
			if !ok || !good {
				t.Fatalf("a call with %v, %d, %d fails", l, k, mark)
			}
			mean := big.NewRat(int64(x), int64(y))
			if moved := new(big.Rat).Sub(mean, own); moved.Abs(moved).Cmp(most) > 0 {
				most = moved
			}
			if mean.Cmp(least) < 0 {
				least = mean
			}
			if mean.Cmp(greatest) > 0 {
				greatest = mean
			}
		}
		if !isRatio(p, q, most) || !isRatio(a, b, least) || !isRatio(c, d, greatest) {
			t.Errorf("%v, judge %d, %d to %d: moved by %v, from %v to %v; told: %d / %d, %d / %d to %d / %d", l, k, low, high, most, least, greatest, p, q, a, b, c, d)
		}
	}
	for n := 1; n <= 9; n++ {
		for seed := range 20 {
			l := mixedList(50*n+seed, n, 1+seed)
			for k := range l {
				check(l, k, -seed, seed)
				check(l, k, l[k]-2, l[k]+3)
				check(l, k, 0, 4)
			}
		}
	}
}

// A mark that is trimmed does not move the mean outwards, and the same holds for the marks that are then there.
func TestPromise10TrimmedMarksDoNotMoveMeans(t *testing.T) {
	trimLists(func(l []int) {
		for k, own := range l {
			is, ok := impl.IsTrimmed(l, k)
			if !ok {
				t.Fatalf("IsTrimmed %d of %v fails", k, l)
			}
			up, _, _ := impl.MostMoved(l, k, own, 1000)
			down, _, _ := impl.MostMoved(l, k, -1000, own)
			if is && own == slices.Max(l) && up != 0 || is && own == slices.Min(l) && down != 0 {
				t.Errorf("%v: the mark of judge %d is trimmed and moves the mean", l, k)
			}
			// At the end of what marks can be each greatest mark stays trimmed.
			if higher, ok := impl.WithMark(l, k, 1000); is && own == slices.Max(l) {
				if still, good := impl.IsTrimmed(higher, k); !still || !ok || !good {
					t.Errorf("%v: the mark of judge %d is not trimmed", higher, k)
				}
			}
		}
	})
}

func TestPromise33ListsThatAreNoMarks(t *testing.T) {
	for what, l := range badJudgeMarks() {
		checkNoTrims(t, what, l)
	}
}

func TestPromise33TrimsAcceptAllNumbers(t *testing.T) {
	numbers := append([]int{-10001, -1001, -1000, -3, 3, 4, 5, 8, 9, 10, 10000, 10001}, wild...)
	for _, l := range [][]int{{7}, {1, 5, 9, 3}, {1, 5, 9, 3, 6}, mixedList(4, 9, 1000), nil, {1001}, repeated(2, 10)} {
		good := areJudgeMarks(l)
		for _, a := range numbers {
			has := good && a >= 0 && a < len(l)
			calm(t, "OrderOf and others", func() {
				if n, ok := impl.OrderOf(l, a); ok != has || !ok && n != 0 {
					t.Errorf("OrderOf %d of %v = %d, %v", a, l, n, ok)
				}
				if x, ok := impl.WithoutMark(l, a); ok != (has && len(l) > 1) || !ok && len(x) != 0 {
					t.Errorf("WithoutMark %d of %v = %v, %v", a, l, x, ok)
				}
				if is, ok := impl.IsTrimmed(l, a); ok != has || !ok && is {
					t.Errorf("IsTrimmed %d of %v = %v, %v", a, l, is, ok)
				}
			})
			for _, b := range numbers {
				calm(t, "WithMark", func() {
					if x, ok := impl.WithMark(l, a, b); ok != (has && b >= -1000 && b <= 1000) || !ok && len(x) != 0 {
						t.Errorf("WithMark %d of %v, %d = %v, %v", a, l, b, x, ok)
					}
				})
				for _, c := range numbers {
					checkThree(t, l, a, b, c)
				}
			}
		}
	}
}

// checkThree checks the calls with a list and three numbers.
func checkThree(t *testing.T, l []int, a, b, c int) {
	t.Helper()
	good := areJudgeMarks(l)
	ranged := good && a >= 0 && a < len(l) && b >= -1000 && b <= c && c <= 1000
	pointed := good && a >= 0 && a <= 10000 && b >= 1 && b <= 1000 && isMode(c)
	calm(t, "MeanRange and others", func() {
		if n, ok := impl.TrimmedPoints(l, a, b, c); ok != pointed || !ok && n != 0 {
			t.Errorf("TrimmedPoints of %v, %d, %d, %d = %d, %v", l, a, b, c, n, ok)
		}
		if p, q, ok := impl.MostMoved(l, a, b, c); ok != ranged || ok != (q != 0) || !ok && p != 0 {
			t.Errorf("MostMoved %d of %v, %d to %d = %d / %d, %v", a, l, b, c, p, q, ok)
		}
		if p, q, r, s, ok := impl.MeanRange(l, a, b, c); ok != ranged || ok != (q != 0) || ok != (s != 0) || !ok && (p != 0 || r != 0) {
			t.Errorf("MeanRange %d of %v, %d to %d = %d / %d, %d / %d, %v", a, l, b, c, p, q, r, s, ok)
		}
	})
}

func TestPromise33TrimsLeaveMarksAsTheyAre(t *testing.T) {
	check := func(plain []int) {
		l, same := spared(plain)
		answers, further := trimAnswers(l), trimAnswers(l)
		if !same() {
			t.Errorf("%v is changed", plain)
		}
		for what, a := range answers {
			checkApart(t, what, a.value, l, further[what].value)
		}
		// What stands behind the length is not read.
		for what, a := range trimAnswers(slices.Clip(slices.Clone(plain))) {
			if b := answers[what]; fmt.Sprint(b) != fmt.Sprint(a) {
				t.Errorf("%s of %v = %v; with spare capacity %v", what, plain, a, b)
			}
		}
	}
	trimLists(check)
	for _, l := range badJudgeMarks() {
		check(l)
	}
}

// Marks behind the length are not there, and what is behind it makes no marks good or bad.
func TestPromise33TrimsReadNothingBehindMarks(t *testing.T) {
	whole := []int{1, 5, 9, 3, 6, -7, 8, 2, 4, 1001, -1001, 5}
	for n := 1; n <= 9; n++ {
		l := whole[:n]
		checkTrims(t, l)
		for k := range l {
			checkOneMark(t, l, k)
		}
		for k := n; k < 12; k++ {
			if x, ok := impl.WithoutMark(l, k); len(x) != 0 || ok {
				t.Errorf("WithoutMark %d of %v = %v, %v", k, l, x, ok)
			}
			if x, ok := impl.WithMark(l, k, 3); len(x) != 0 || ok {
				t.Errorf("WithMark %d of %v = %v, %v", k, l, x, ok)
			}
		}
	}
	checkNoTrims(t, "no marks, with some behind them", whole[:0])
	checkNoTrims(t, "ten marks", []int{1, 2, 3, 4, 5, 6, 7, 8, 9, 10, 11}[:10])
	if !slices.Equal(whole, []int{1, 5, 9, 3, 6, -7, 8, 2, 4, 1001, -1001, 5}) {
		t.Errorf("an argument is changed: %v", whole)
	}
}

// A result stays as it is when the argument is changed afterwards, and the argument when a result is.
func TestPromise33TrimsKeepNoMarks(t *testing.T) {
	trimLists(func(plain []int) {
		l, same := spared(plain)
		answers := trimAnswers(l)
		before := fmt.Sprint(answers)
		for _, a := range trimAnswers(l) {
			if x, ok := a.value.([]int); ok {
				spoilNumbers(x)
			}
		}
		if !same() {
			t.Errorf("%v changes with a result", plain)
		}
		spoilNumbers(l)
		if fmt.Sprint(answers) != before {
			t.Errorf("a result changes with %v", plain)
		}
	})
}
