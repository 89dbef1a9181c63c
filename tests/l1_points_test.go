package tests

import (
	"math"
	"math/big"
	"slices"
	"strings"
	"testing"

	"loop.example/g00912/impl"
)

// Fractions a / b with all signs, halves, whole numbers and both limits.
var (
	someOvers = []int{
		-1000000000000, -999999999999, -1000001, -750, -101, -7, -6, -5, -4, -3, -2, -1, 0,
		1, 2, 3, 4, 5, 6, 7, 101, 750, 1000001, 999999999999, 1000000000000,
	}
	someUnders = []int{1, 2, 3, 4, 5, 6, 7, 100, 250, 999983, 999999, 1000000}
)

func isPart(a, b int) bool {
	return a >= -1000000000000 && a <= 1000000000000 && b >= 1 && b <= 1000000
}

func isMode(m int) bool { return m >= -1 && m <= 1 }

func isPoints(n int) bool { return n >= -1000000 && n <= 1000000 }

func TestPointsConstants(t *testing.T) {
	if impl.MaxPoints != 1000000 || impl.MaxPart != 1000000000000 {
		t.Error("limits", impl.MaxPoints, impl.MaxPart)
	}
}

func TestPointsText(t *testing.T) {
	for n, want := range map[int]string{
		0: "0.00", 1: "0.01", 9: "0.09", 10: "0.10", 99: "0.99", 100: "1.00", 101: "1.01", 1234: "12.34",
		-1: "-0.01", -10: "-0.10", -50: "-0.50", -99: "-0.99", -100: "-1.00", -1205: "-12.05",
		999999: "9999.99", 1000000: "10000.00", -1000000: "-10000.00",
	} {
		if s, ok := impl.PointsText(n); s != want || !ok {
			t.Errorf("PointsText(%d) = %q, %v; want %q", n, s, ok, want)
		}
	}
	for _, n := range []int{1000001, -1000001, math.MaxInt, math.MinInt} {
		if s, ok := impl.PointsText(n); s != "" || ok {
			t.Errorf("PointsText(%d) = %q, %v", n, s, ok)
		}
	}
}

func TestPromise1TextsOfPointsAreReadBack(t *testing.T) {
	for n := -1000000; n <= 1000000; n++ {
		s, ok := impl.PointsText(n)
		if !ok {
			t.Fatalf("%d has no text", n)
		}
		if m, ok := impl.ReadPoints(s); m != n || !ok {
			t.Fatalf("ReadPoints(%q) = %d, %v; want %d", s, m, ok, n)
		}
	}
}

func TestReadPointsOfNearlyTexts(t *testing.T) {
	for _, s := range []string{
		"", "-", ".", "-.", "0", "-0", "12", "0.0", "0.", ".00", ".50", "-.50", "5.0", "5.000", "0.5", "0.500",
		"-0.00", "--0.50", "+0.50", "0-.50", "0.-50", "0.5-0", "0.50-", "00.50", "01.00", "-00.50", "-01.00", "0012.34",
		" 0.50", "0.50 ", "0.50\n", "\n0.50", "- 0.50", "0 .50", "0. 50", "0,50", "0.5O", "0.5a", "x.50", "0x1.00",
		"1.2.34", "12..34", "12.34.", ".12.34", "1234.", "1_2.34", "1e2.00", "1,000.00", "\x000.50", "0.50\x00",
		"10000.01", "-10000.01", "10000.000", "010000.00", "99999.99", "100000.00", "-100000.00",
		"92233720368547758.07", "-92233720368547758.08", "184467440737095516.16", "184467440737095517.50",
		"\u0661.\u0662\u0663", "\uff11.\uff12\uff13", "\u22121.00", "1\u00b700", "1\xff.00", "\xff\xfe", "1.0\xc3",
		strings.Repeat("0", 1000) + "1.00", strings.Repeat("9", 1000), strings.Repeat("-", 1000), strings.Repeat("\xff", 1000),
	} {
		if n, ok := impl.ReadPoints(s); n != 0 || ok {
			t.Errorf("ReadPoints(%q) = %d, %v", s, n, ok)
		}
	}
}

// What is read has the text from which it is read, so no other text can be accepted.
func TestReadPointsOfChangedTexts(t *testing.T) {
	for _, text := range []string{"0.00", "0.01", "-0.01", "-0.50", "12.34", "-12.34", "100.00", "9999.99", "10000.00", "-10000.00"} {
		for i := range len(text) + 1 {
			for b := range 256 {
				changed := []string{text[:i] + string([]byte{byte(b)}) + text[i:]}
				if i < len(text) {
					changed = append(changed, text[:i]+string([]byte{byte(b)})+text[i+1:], text[:i]+text[i+1:])
				}
				for _, s := range changed {
					n, ok := impl.ReadPoints(s)
					if back, good := impl.PointsText(n); ok && (back != s || !good) || !ok && n != 0 {
						t.Errorf("ReadPoints(%q) = %d, %v", s, n, ok)
					}
				}
			}
		}
	}
}

func TestRoundPart(t *testing.T) {
	for _, c := range []struct{ a, b, down, near, up int }{
		{0, 1, 0, 0, 0}, {0, 1000000, 0, 0, 0}, {5, 2, 2, 3, 3}, {-5, 2, -3, -2, -2},
		{1, 2, 0, 1, 1}, {-1, 2, -1, 0, 0}, {3, 2, 1, 2, 2}, {-3, 2, -2, -1, -1},
		{1, 3, 0, 0, 1}, {2, 3, 0, 1, 1}, {-1, 3, -1, 0, 0}, {-2, 3, -1, -1, 0},
		{1, 4, 0, 0, 1}, {3, 4, 0, 1, 1}, {-1, 4, -1, 0, 0}, {-3, 4, -1, -1, 0},
		{6, 3, 2, 2, 2}, {-6, 3, -2, -2, -2}, {7, 1, 7, 7, 7}, {-7, 1, -7, -7, -7},
		{499999, 1000000, 0, 0, 1}, {500000, 1000000, 0, 1, 1}, {-500000, 1000000, -1, 0, 0}, {-500001, 1000000, -1, -1, 0},
		{1000000000000, 1, 1000000000000, 1000000000000, 1000000000000},
		{-1000000000000, 1, -1000000000000, -1000000000000, -1000000000000},
		{999999999999, 1000000, 999999, 1000000, 1000000}, {-999999999999, 1000000, -1000000, -1000000, -999999},
		{1000000000000, 999999, 1000001, 1000001, 1000002}, {-1000000000000, 999999, -1000002, -1000001, -1000001},
	} {
		for mode, want := range map[int]int{-1: c.down, 0: c.near, 1: c.up} {
			if n, ok := impl.RoundPart(c.a, c.b, mode); n != want || !ok {
				t.Errorf("RoundPart(%d, %d, %d) = %d, %v; want %d", c.a, c.b, mode, n, ok, want)
			}
		}
	}
}

func TestPromise1RoundedFractionsAreNextToThem(t *testing.T) {
	check := func(a, b int) {
		down, ok1 := impl.RoundPart(a, b, -1)
		near, ok2 := impl.RoundPart(a, b, 0)
		up, ok3 := impl.RoundPart(a, b, 1)
		if !ok1 || !ok2 || !ok3 {
			t.Fatalf("%d / %d is not rounded", a, b)
		}
		if down*b > a || a >= (down+1)*b {
			t.Errorf("%d / %d down: %d", a, b, down)
		}
		if up*b < a || a <= (up-1)*b {
			t.Errorf("%d / %d up: %d", a, b, up)
		}
		if twice := 2 * (near*b - a); twice <= -b || twice > b {
			t.Errorf("%d / %d to the nearest: %d", a, b, near)
		}
	}
	for _, a := range someOvers {
		for _, b := range someUnders {
			check(a, b)
		}
	}
	for a := -60; a <= 60; a++ {
		for b := 1; b <= 13; b++ {
			check(a, b)
		}
	}
}

func TestLowestPart(t *testing.T) {
	for _, c := range [][4]int{
		{0, 1, 0, 1}, {0, 7, 0, 1}, {0, 1000000, 0, 1}, {6, 4, 3, 2}, {-6, 4, -3, 2}, {5, 5, 1, 1}, {-5, 5, -1, 1},
		{7, 1, 7, 1}, {2, 3, 2, 3}, {1000000000000, 1000000, 1000000, 1}, {-1000000000000, 1, -1000000000000, 1},
	} {
		if a, b, ok := impl.LowestPart(c[0], c[1]); a != c[2] || b != c[3] || !ok {
			t.Errorf("LowestPart(%d, %d) = %d, %d, %v", c[0], c[1], a, b, ok)
		}
	}
	for _, a := range someOvers {
		for _, b := range someUnders {
			want := big.NewRat(int64(a), int64(b))
			x, y, ok := impl.LowestPart(a, b)
			if int64(x) != want.Num().Int64() || int64(y) != want.Denom().Int64() || !ok {
				t.Errorf("LowestPart(%d, %d) = %d, %d, %v; want %s", a, b, x, y, ok, want)
			}
		}
	}
}

func TestCompareAndAddParts(t *testing.T) {
	for _, a := range someOvers {
		for _, b := range someUnders {
			for _, c := range someOvers {
				for _, d := range someUnders {
					left, right := big.NewRat(int64(a), int64(b)), big.NewRat(int64(c), int64(d))
					if n, ok := impl.CompareParts(a, b, c, d); n != left.Cmp(right) || !ok {
						t.Fatalf("CompareParts(%d, %d, %d, %d) = %d, %v", a, b, c, d, n, ok)
					}
					sum := left.Add(left, right)
					x, y, ok := 0, 0, false
					if sum.Num().IsInt64() && sum.Denom().IsInt64() {
						x, y = int(sum.Num().Int64()), int(sum.Denom().Int64())
						ok = isPart(x, y)
					}
					if !ok {
						x, y = 0, 0
					}
					if p, q, good := impl.AddParts(a, b, c, d); p != x || q != y || good != ok {
						t.Fatalf("AddParts(%d, %d, %d, %d) = %d, %d, %v; want %d, %d, %v", a, b, c, d, p, q, good, x, y, ok)
					}
				}
			}
		}
	}
}

func TestAddPartsAtTheLimits(t *testing.T) {
	for _, c := range []struct {
		a, b, c, d, over, under int
		ok                      bool
	}{
		{1, 2, 1, 3, 5, 6, true},
		{1, 2, -1, 2, 0, 1, true},
		{-1, 6, -1, 3, -1, 2, true},
		{999999999999, 1, 1, 1, 1000000000000, 1, true},
		{1000000000000, 1, 1, 1, 0, 0, false},
		{-1000000000000, 1, 0, 5, -1000000000000, 1, true},
		{-1000000000000, 1, -1, 1000000, 0, 0, false},
		{1000000000000, 1, -1000000000000, 1, 0, 1, true},
		{1, 1000, 1, 999, 1999, 999000, true},
		{1, 1000, 1, 1001, 0, 0, false},
		{1, 1000000, 1, 1000000, 1, 500000, true},
		{1, 1000000, 1, 15625, 13, 200000, true},
		{1, 999999, 1, 1000000, 0, 0, false},
	} {
		if x, y, ok := impl.AddParts(c.a, c.b, c.c, c.d); x != c.over || y != c.under || ok != c.ok {
			t.Errorf("AddParts(%d, %d, %d, %d) = %d, %d, %v", c.a, c.b, c.c, c.d, x, y, ok)
		}
	}
}

func TestSumPoints(t *testing.T) {
	for _, c := range []struct {
		l   []int
		sum int
		ok  bool
	}{
		{nil, 0, true}, {[]int{}, 0, true}, {[]int{-5}, -5, true}, {[]int{3, -10, 2}, -5, true},
		{[]int{1000000}, 1000000, true}, {[]int{999999, 1}, 1000000, true}, {[]int{1000000, 1}, 0, false},
		{[]int{-999999, -1}, -1000000, true}, {[]int{-1000000, -1}, 0, false},
		{[]int{1000000, 1000000, -1000000}, 1000000, true}, {[]int{-1000000, -1000000, 1000000, 1000000}, 0, true},
		{[]int{1000001, -1}, 0, false}, {[]int{-1000001, 1}, 0, false},
		{repeated(7, 60), 420, true}, {repeated(0, 60), 0, true}, {repeated(0, 61), 0, false},
		{[]int{math.MaxInt, math.MaxInt, 2}, 0, false}, {[]int{math.MinInt, math.MinInt}, 0, false},
	} {
		if n, ok := impl.SumPoints(c.l); n != c.sum || ok != c.ok {
			t.Errorf("SumPoints(%v) = %d, %v", c.l, n, ok)
		}
	}
}

func TestMeanPoints(t *testing.T) {
	for _, c := range []struct {
		l    []int
		a, b int
		ok   bool
	}{
		{nil, 0, 0, false}, {[]int{}, 0, 0, false}, {[]int{0}, 0, 1, true}, {[]int{5, -5}, 0, 1, true},
		{[]int{1, 2}, 3, 2, true}, {[]int{-1, -2}, -3, 2, true}, {[]int{2, 4, 6, 8}, 5, 1, true}, {[]int{1, 1, 2, 2, 3, 3}, 2, 1, true},
		{[]int{1, 0, 0, 1}, 1, 2, true}, {[]int{1000000, 1000000, 1000000}, 1000000, 1, true},
		{repeated(-1000000, 60), -1000000, 1, true}, {append(repeated(0, 59), 1), 1, 60, true},
		{repeated(0, 61), 0, 0, false}, {[]int{1000001}, 0, 0, false}, {[]int{0, -1000001}, 0, 0, false},
	} {
		if x, y, ok := impl.MeanPoints(c.l); x != c.a || y != c.b || ok != c.ok {
			t.Errorf("MeanPoints(%v) = %d, %d, %v", c.l, x, y, ok)
		}
	}
}

func TestPercentOf(t *testing.T) {
	for _, c := range []struct {
		n, percent, mode, want int
		ok                     bool
	}{
		{0, 50, 0, 0, true}, {1234, 0, 1, 0, true}, {1234, 100, 0, 1234, true}, {-1234, 100, -1, -1234, true},
		{5, 50, -1, 2, true}, {5, 50, 0, 3, true}, {5, 50, 1, 3, true},
		{-5, 50, -1, -3, true}, {-5, 50, 0, -2, true}, {-5, 50, 1, -2, true},
		{100000, 1000, 0, 1000000, true}, {-100000, 1000, 0, -1000000, true}, {100001, 1000, 0, 0, false}, {-100001, 1000, 0, 0, false},
		{1000000, 100, 1, 1000000, true}, {1000000, 101, -1, 0, false}, {-1000000, 101, 1, 0, false},
		{999999, 100, 0, 999999, true}, {666667, 150, -1, 1000000, true}, {666667, 150, 0, 0, false}, {666667, 150, 1, 0, false},
		{-666667, 150, -1, 0, false}, {-666667, 150, 0, -1000000, true}, {-666667, 150, 1, -1000000, true},
		{1, 1000, 0, 10, true}, {1, 1001, 0, 0, false}, {0, 1001, 0, 0, false}, {1, -1, 0, 0, false}, {0, -1, 0, 0, false},
		{1000001, 1, 0, 0, false}, {-1000001, 0, 0, 0, false}, {5, 50, 2, 0, false}, {5, 50, -2, 0, false},
	} {
		if n, ok := impl.PercentOf(c.n, c.percent, c.mode); n != c.want || ok != c.ok {
			t.Errorf("PercentOf(%d, %d, %d) = %d, %v", c.n, c.percent, c.mode, n, ok)
		}
	}
}

func TestSortedPoints(t *testing.T) {
	for _, c := range []struct{ l, want []int }{
		{nil, nil}, {[]int{}, nil}, {[]int{4}, []int{4}}, {[]int{-1, 3, 0, 3, -7}, []int{3, 3, 0, -1, -7}},
		{[]int{-1000000, 1000000, 0}, []int{1000000, 0, -1000000}}, {repeated(2, 60), repeated(2, 60)},
	} {
		if l, ok := impl.SortedPoints(c.l); !slices.Equal(l, c.want) || !ok {
			t.Errorf("SortedPoints(%v) = %v, %v", c.l, l, ok)
		}
	}
	for _, l := range [][]int{repeated(0, 61), {1000001}, {3, 2, -1000001}, {math.MinInt, math.MaxInt}} {
		if s, ok := impl.SortedPoints(l); len(s) != 0 || ok {
			t.Errorf("SortedPoints(%v) = %v, %v", l, s, ok)
		}
	}
}

func TestPlaceOfPoints(t *testing.T) {
	for _, c := range []struct {
		l        []int
		n, place int
		ok       bool
	}{
		{nil, 5, 1, true}, {[]int{}, -1000000, 1, true}, {[]int{900, 700, 700}, 700, 2, true}, {[]int{900, 700, 700}, 900, 1, true},
		{[]int{700, 900, 700}, 699, 4, true}, {[]int{900, 700, 700}, 1000, 1, true}, {[]int{-1, -2, -3}, -2, 2, true},
		{repeated(1, 60), 0, 61, true}, {repeated(1000000, 60), 1000000, 1, true}, {repeated(1, 61), 0, 0, false},
		{[]int{1}, 1000001, 0, false}, {[]int{1}, -1000001, 0, false}, {[]int{1000001}, 1, 0, false}, {nil, math.MinInt, 0, false},
	} {
		if n, ok := impl.PlaceOfPoints(c.l, c.n); n != c.place || ok != c.ok {
			t.Errorf("PlaceOfPoints(%v, %d) = %d, %v", c.l, c.n, n, ok)
		}
	}
}

func TestPromise33PointsAcceptAllNumbers(t *testing.T) {
	for _, a := range wild {
		calm(t, "PointsText", func() {
			if s, ok := impl.PointsText(a); ok != isPoints(a) || (s != "") != ok {
				t.Errorf("PointsText(%d) = %q, %v", a, s, ok)
			}
		})
		for _, b := range wild {
			calm(t, "LowestPart", func() {
				if x, y, ok := impl.LowestPart(a, b); ok != isPart(a, b) || !ok && (x != 0 || y != 0) {
					t.Errorf("LowestPart(%d, %d) = %d, %d, %v", a, b, x, y, ok)
				}
			})
			for _, c := range wild {
				calm(t, "RoundPart", func() {
					if n, ok := impl.RoundPart(a, b, c); ok != (isPart(a, b) && isMode(c)) || !ok && n != 0 {
						t.Errorf("RoundPart(%d, %d, %d) = %d, %v", a, b, c, n, ok)
					}
				})
				calm(t, "PercentOf", func() {
					valid := isPoints(a) && b >= 0 && b <= 1000 && isMode(c)
					if n, ok := impl.PercentOf(a, b, c); ok && (!valid || !isPoints(n)) || !ok && n != 0 {
						t.Errorf("PercentOf(%d, %d, %d) = %d, %v", a, b, c, n, ok)
					}
				})
			}
		}
	}
}

func TestPromise33PointsAcceptAllFractions(t *testing.T) {
	for _, a := range wild {
		for _, b := range wild {
			for _, c := range wild {
				for _, d := range wild {
					valid := isPart(a, b) && isPart(c, d)
					calm(t, "CompareParts", func() {
						if n, ok := impl.CompareParts(a, b, c, d); ok != valid || !ok && n != 0 {
							t.Errorf("CompareParts(%d, %d, %d, %d) = %d, %v", a, b, c, d, n, ok)
						}
					})
					calm(t, "AddParts", func() {
						x, y, ok := impl.AddParts(a, b, c, d)
						if ok && (!valid || !isPart(x, y)) || !ok && (x != 0 || y != 0) {
							t.Errorf("AddParts(%d, %d, %d, %d) = %d, %d, %v", a, b, c, d, x, y, ok)
						}
					})
				}
			}
		}
	}
}

// pointsLists are valid and invalid lists, the latter wrong at their start, middle or end, or by their length.
func pointsLists() [][]int {
	lists := [][]int{nil, {}, {5}, {3, -10, 2, 3}, {900, 700, 700}, repeated(9, 60), repeated(9, 61), repeated(9, 100000)}
	for _, w := range wild {
		lists = append(lists, []int{w}, []int{w, 0, 1}, []int{0, w, 1}, []int{1, 0, w}, []int{w, w}, repeated(w, 60), repeated(w, 61))
	}
	return lists
}

func TestPromise33PointsAcceptAllLists(t *testing.T) {
	for _, l := range pointsLists() {
		bad := len(l) > 60 || slices.ContainsFunc(l, func(n int) bool { return !isPoints(n) })
		calm(t, "SumPoints", func() {
			if n, ok := impl.SumPoints(l); ok && bad || !ok && n != 0 {
				t.Errorf("SumPoints(%v) = %d, %v", l, n, ok)
			}
		})
		calm(t, "MeanPoints", func() {
			if x, y, ok := impl.MeanPoints(l); ok != (!bad && len(l) > 0) || !ok && (x != 0 || y != 0) {
				t.Errorf("MeanPoints(%v) = %d, %d, %v", l, x, y, ok)
			}
		})
		calm(t, "SortedPoints", func() {
			if s, ok := impl.SortedPoints(l); ok == bad || !ok && len(s) != 0 {
				t.Errorf("SortedPoints(%v) = %v, %v", l, s, ok)
			}
		})
		for _, n := range wild {
			calm(t, "PlaceOfPoints", func() {
				if p, ok := impl.PlaceOfPoints(l, n); ok != (!bad && isPoints(n)) || !ok && p != 0 {
					t.Errorf("PlaceOfPoints(%v, %d) = %d, %v", l, n, p, ok)
				}
			})
		}
	}
}

func TestPromise33PointsLeaveListsAsTheyAre(t *testing.T) {
	for _, original := range pointsLists() {
		l, same := spared(original)
		impl.SumPoints(l)
		impl.MeanPoints(l)
		impl.PlaceOfPoints(l, 5)
		sorted, _ := impl.SortedPoints(l)
		if !same() {
			t.Errorf("%v is changed", original)
		}
		whole := sorted[:cap(sorted)]
		for i := range whole {
			whole[i] = 12345
		}
		if !same() {
			t.Errorf("the sorted points share memory with %v", original)
		}
	}
}
