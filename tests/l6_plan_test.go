package tests

import (
	"fmt"
	"reflect"
	"slices"
	"strings"
	"testing"

	"loop.example/g00912/impl"
)

// flatCode has elements A, B, C, ... with bases, no repeats and no bonus; the families are given as digits.
func flatCode(families string, bases ...int) impl.Code {
	c := impl.Code{Limits: []int{9, 9, 9, 9, 9}, Repeats: 1, Keeps: 50}
	for i, base := range bases {
		c.Elements = append(c.Elements, impl.Element{Name: string(rune('A' + i)), Family: int(families[i] - '0'), Base: base})
	}
	return c
}

func withLimits(c impl.Code, limits ...int) impl.Code {
	c.Limits = limits
	return c
}

// tightCode is a code of n elements of few families with low limits and few different bases, so that many are equal.
func tightCode(seed, n int) impl.Code {
	c, next := mixedCode(seed, n), mixing(seed+77)
	for i := range c.Elements {
		c.Elements[i].Family = max(0, next(5)-2)
		c.Elements[i].Base = 1 + next(8)
		if seed%3 == 0 {
			c.Elements[i].Base = 100 * (1 + next(5))
		}
	}
	for i := range c.Limits {
		c.Limits[i] = next(5)
	}
	return c
}

// planCodes are codes of up to MaxElements elements with high and low limits, all of them 0 among them.
func planCodes() []impl.Code {
	codes := append(someCodes(), planCode(), planCodeWith(1, 0, 0, 0, 0, 0), planCodeWith(3, 9, 9, 9, 9, 9), wideCode(), baseCode(), baseCodeWith(3, 20, 50), baseCodeWith(1, 0, 100))
	for seed := range 60 {
		codes = append(codes, tightCode(seed, 1+seed%24))
	}
	return codes
}

// smallCodes have so few elements that all of their single programmes can be gone through.
func smallCodes() []impl.Code {
	codes := []impl.Code{someCode(), smallCode(), baseCode(), flatCode("00011", 5, 5, 5, 5, 5), withLimits(flatCode("00112", 4, 7, 7, 4, 7), 1, 1, 1, 1, 1)}
	for seed := range 36 {
		codes = append(codes, tightCode(seed, 1+seed%6), mixedCode(seed, 1+seed%6))
	}
	return codes
}

// grownPlan is a programme of at most n items for a code, or nothing: an item that makes it none is left out again.
func grownPlan(seed, n int, c impl.Code) []impl.Item {
	next := mixing(seed)
	var l []impl.Item
	for tries := 0; tries < 5*n && len(l) < n; tries++ {
		names := []string{c.Elements[next(len(c.Elements))].Name}
		for len(names) < 3 && next(5) < 2 {
			names = append(names, c.Elements[next(len(c.Elements))].Name)
		}
		longer := plainLate(append(copiedItems(l), plannedItem(strings.Join(names, "+"))))
		if len(plainBroken(c, longer)) == 0 {
			l = longer
		}
	}
	return l
}

// manyPlans calls a function with programmes of 1 to 14 items for many codes.
func manyPlans(t *testing.T, do func(c impl.Code, l []impl.Item)) {
	t.Helper()
	lengths, combined := map[int]int{}, 0
	for i, c := range planCodes() {
		for n := 1; n <= 14; n += 1 + i%3 {
			if l := grownPlan(100*i+n, n, c); len(l) > 0 {
				do(c, l)
				lengths[len(l)]++
				if slices.ContainsFunc(l, func(it impl.Item) bool { return len(it.Names) > 1 }) {
					combined++
				}
			}
		}
	}
	for n := 1; n <= 14; n++ {
		if lengths[n] < 4 || combined < 100 {
			t.Errorf("only %d programmes of %d items, %d with combined ones", lengths[n], n, combined)
		}
	}
}

// everySingle calls a function with each single programme of n items for a code, in each order.
func everySingle(c impl.Code, n int, do func(l []impl.Item)) {
	var grow func(names []string)
	grow = func(names []string) {
		if len(names) == n {
			if l := planned(names...); len(plainBroken(c, l)) == 0 {
				do(l)
			}
			return
		}
		for _, x := range c.Elements {
			if !slices.Contains(names, x.Name) {
				grow(append(slices.Clone(names), x.Name))
			}
		}
	}
	grow(nil)
}

// plainCount goes through all sets of elements.
func plainCount(c impl.Code, n int) int {
	count := 0
	for set := range 1 << len(c.Elements) {
		chosen, families := 0, make([]int, 5)
		for i, x := range c.Elements {
			if set>>i&1 == 1 {
				chosen++
				families[x.Family]++
			}
		}
		fits := chosen == n
		for family, limit := range c.Limits {
			fits = fits && families[family] <= limit
		}
		if fits {
			count++
		}
	}
	return count
}

// plainMost counts up to the first limit that is met.
func plainMost(c impl.Code) int {
	families, most := make([]int, 5), 0
	for _, x := range c.Elements {
		if families[x.Family] < c.Limits[x.Family] && most < 14 {
			families[x.Family]++
			most++
		}
	}
	return most
}

// plainChoice chooses element by element, each time among all of them.
func plainChoice(c impl.Code, n int) []int {
	var chosen []int
	families := make([]int, 5)
	for range n {
		best := -1
		for i, x := range c.Elements {
			if !slices.Contains(chosen, i) && families[x.Family] < c.Limits[x.Family] && (best < 0 || x.Base > c.Elements[best].Base) {
				best = i
			}
		}
		families[c.Elements[best].Family]++
		chosen = append(chosen, best)
	}
	slices.Sort(chosen)
	return chosen
}

// plainBound takes the greatest numbers one by one.
func plainBound(c impl.Code, n int) int {
	var left []int
	for _, x := range c.Elements {
		left = append(left, slices.Repeat([]int{x.Base}, c.Repeats)...)
	}
	sum := 0
	for range n + 4 {
		if len(left) > 0 {
			most := slices.Max(left)
			sum += most
			left = slices.Delete(left, slices.Index(left, most), slices.Index(left, most)+1)
		}
	}
	bound := n + sum + sum*c.Bonus/100
	if sum*c.Bonus%100 > 0 {
		bound++
	}
	return bound
}

// plainGain is the gain of a single element in the place of item k; it is false if there is no programme then.
func plainGain(c impl.Code, l []impl.Item, k int, name string) (int, bool) {
	replaced := copiedItems(l)
	replaced[k] = plannedItem(name)
	replaced = plainLate(replaced)
	if len(plainBroken(c, replaced)) > 0 {
		return 0, false
	}
	return sumOf(plainBases(c, replaced)) - sumOf(plainBases(c, l)), true
}

func TestMostSingles(t *testing.T) {
	for _, w := range []struct {
		code impl.Code
		most int
	}{
		{withLimits(planCode(), 0, 0, 0, 0, 0), 0}, {smallCode(), 0}, {withLimits(smallCode(), 1, 0, 0, 0, 0), 1}, {withLimits(smallCode(), 0, 9, 9, 9, 9), 0}, {withLimits(smallCode(), 9, 0, 0, 0, 0), 1},
		// 5 jumps, 2 spins, 1 step, 1 lift and 1 figure.
		{planCode(), 8}, {withLimits(planCode(), 9, 9, 9, 9, 9), 10}, {withLimits(planCode(), 4, 0, 0, 0, 0), 4}, {withLimits(planCode(), 5, 0, 0, 0, 0), 5}, {withLimits(planCode(), 6, 0, 0, 0, 0), 5},
		{withLimits(planCode(), 0, 1, 0, 0, 0), 1}, {withLimits(planCode(), 0, 3, 0, 0, 0), 2}, {withLimits(planCode(), 0, 0, 9, 0, 0), 1}, {withLimits(planCode(), 0, 0, 0, 9, 0), 1}, {withLimits(planCode(), 0, 0, 0, 0, 9), 1},
		// 24 elements, 5 of each family but for 4 figures.
		{wideCode(), 14}, {withLimits(wideCode(), 3, 3, 3, 3, 2), 14}, {withLimits(wideCode(), 3, 3, 3, 2, 2), 13}, {withLimits(wideCode(), 3, 3, 3, 3, 3), 14}, {withLimits(wideCode(), 9, 9, 0, 0, 0), 10}, {withLimits(wideCode(), 0, 0, 0, 0, 9), 4},
		{largeCode(), 9}, {withLimits(largeCode(), 9, 9, 9, 9, 8), 8}, {withLimits(largeCode(), 9, 9, 9, 9, 0), 0},
	} {
		if n, ok := impl.MostSingles(w.code); n != w.most || !ok {
			t.Errorf("MostSingles of %swith the limits %v = %d, %v; want %d", namesOf(w.code), w.code.Limits, n, ok, w.most)
		}
	}
	for _, c := range planCodes() {
		if n, ok := impl.MostSingles(c); n != plainMost(c) || !ok {
			t.Errorf("MostSingles of %+v = %d, %v; want %d", c, n, ok, plainMost(c))
		}
	}
}

// How often a name may occur, and what its base is, is no matter of single programmes.
func TestMostSinglesOfEachCode(t *testing.T) {
	for _, repeats := range []int{1, 2, 3} {
		c := planCodeWith(repeats, 4, 2, 1, 0, 1)
		if n, ok := impl.MostSingles(c); n != 8 || !ok {
			t.Errorf("MostSingles with Repeats %d = %d, %v", repeats, n, ok)
		}
	}
	for _, c := range smallCodes() {
		most, ok := impl.MostSingles(c)
		for n := 1; n <= len(c.Elements); n++ {
			there := 0
			everySingle(c, n, func([]impl.Item) { there++ })
			if (there > 0) != (n <= most) || !ok {
				t.Errorf("MostSingles of %+v = %d, %v; there are %d of %d items", c, most, ok, there, n)
			}
		}
	}
}

func TestBestNames(t *testing.T) {
	for _, w := range []struct {
		code impl.Code
		want [][]int // for n = 1, 2, ...
	}{
		{baseCode(), [][]int{{2}, {0, 2}, {0, 2, 3}, {0, 1, 2, 3}, {0, 1, 2, 3, 4}, {0, 1, 2, 3, 4, 5}}},
		{withLimits(baseCode(), 1, 9, 9, 9, 9), [][]int{{2}, {2, 3}, {2, 3, 4}, {2, 3, 4, 5}}},
		{withLimits(baseCode(), 2, 0, 0, 0, 1), [][]int{{2}, {0, 2}, {0, 2, 4}}},
		{withLimits(baseCode(), 0, 0, 1, 9, 0), [][]int{{5}}},
		{withLimits(baseCode(), 0, 0, 0, 9, 0), nil},
		{withLimits(baseCode(), 0, 0, 0, 0, 0), nil},
		// Equal bases: the least index first, in one family and in several.
		{flatCode("0000", 7, 7, 7, 7), [][]int{{0}, {0, 1}, {0, 1, 2}, {0, 1, 2, 3}}},
		{flatCode("3210", 7, 7, 7, 7), [][]int{{0}, {0, 1}, {0, 1, 2}, {0, 1, 2, 3}}},
		{flatCode("0000", 5, 7, 5, 7), [][]int{{1}, {1, 3}, {0, 1, 3}, {0, 1, 2, 3}}},
		{flatCode("0101", 5, 7, 5, 7), [][]int{{1}, {1, 3}, {0, 1, 3}, {0, 1, 2, 3}}},
		{withLimits(flatCode("0000", 7, 7, 7, 7), 2, 0, 0, 0, 0), [][]int{{0}, {0, 1}}},
		{withLimits(flatCode("110100", 7, 7, 7, 7, 7, 7), 2, 1, 0, 0, 0), [][]int{{0}, {0, 2}, {0, 2, 4}}},
		{withLimits(flatCode("110100", 6, 7, 7, 7, 8, 7), 2, 1, 0, 0, 0), [][]int{{4}, {1, 4}, {1, 2, 4}}},
	} {
		for n := -1; n <= 16; n++ {
			var want []int
			if n >= 1 && n <= len(w.want) {
				want = w.want[n-1]
			}
			if names, ok := impl.BestNames(w.code, n); !slices.Equal(names, want) || ok != (len(want) > 0) {
				t.Errorf("BestNames of %swith the limits %v for %d = %v, %v; want %v", namesOf(w.code), w.code.Limits, n, names, ok, want)
			}
		}
	}
	for _, c := range planCodes() {
		for n := 1; n <= plainMost(c); n++ {
			if names, ok := impl.BestNames(c, n); !slices.Equal(names, plainChoice(c, n)) || !ok {
				t.Errorf("BestNames of %+v for %d = %v, %v; want %v", c, n, names, ok, plainChoice(c, n))
			}
		}
	}
}

// checkNoSingles checks that there is no best single programme of n items.
func checkNoSingles(t *testing.T, c impl.Code, n int) {
	t.Helper()
	if names, ok := impl.BestNames(c, n); len(names) != 0 || ok {
		t.Errorf("BestNames of %+v for %d = %v, %v", c, n, names, ok)
	}
	if l, ok := impl.BestSingles(c, n); !isNoProgramme(l, ok) {
		t.Errorf("BestSingles of %+v for %d = %s, %v", c, n, plainTexts(l), ok)
	}
	if base, ok := impl.SinglesBase(c, n); base != 0 || ok {
		t.Errorf("SinglesBase of %+v for %d = %d, %v", c, n, base, ok)
	}
}

func TestNumbersOfItems(t *testing.T) {
	for _, c := range planCodes() {
		most := plainMost(c)
		for n := 1; n <= most; n++ {
			if l, ok := impl.BestSingles(c, n); len(l) != n || !ok {
				t.Errorf("BestSingles of %+v for %d = %s, %v", c, n, plainTexts(l), ok)
			}
		}
		for n := most + 1; n <= 16; n++ {
			checkNoSingles(t, c, n)
			// There are none of so many items, which is a number, and the bound does not ask whether there are any.
			if count, ok := impl.CountSingles(c, n); count != 0 || ok != (n <= 14) {
				t.Errorf("CountSingles of %+v for %d = %d, %v", c, n, count, ok)
			}
			if bound, ok := impl.PlanBound(c, n); (bound > 0) != (n <= 14) || ok != (n <= 14) {
				t.Errorf("PlanBound of %+v for %d = %d, %v", c, n, bound, ok)
			}
		}
	}
	for _, n := range append([]int{-15, -14, -3, 15, 16, 24, 257, 270}, wild...) {
		if n >= 1 && n <= 14 {
			continue
		}
		for _, c := range []impl.Code{wideCode(), largeCode(), planCode(), smallCode()} {
			calm(t, fmt.Sprint(n, " items"), func() {
				checkNoSingles(t, c, n)
				if count, ok := impl.CountSingles(c, n); count != 0 || ok {
					t.Errorf("CountSingles for %d = %d, %v", n, count, ok)
				}
				if bound, ok := impl.PlanBound(c, n); bound != 0 || ok {
					t.Errorf("PlanBound for %d = %d, %v", n, bound, ok)
				}
			})
		}
	}
}

func TestBestSingles(t *testing.T) {
	for _, w := range []struct {
		code impl.Code
		n    int
		want string
		base int
	}{
		// The late bases are 366.3, 881.1 and 357.5, which is 358.
		{baseCode(), 1, "3A", 801}, {baseCode(), 2, "2A, 3A x", 333 + 881}, {baseCode(), 3, "CSP, 2A, 3A x", 325 + 333 + 881}, {baseCode(), 4, "2T, CSP, 2A x, 3A x", 130 + 325 + 366 + 881},
		{baseCode(), 5, "PIV, 2T, CSP, 2A x, 3A x", 7 + 130 + 325 + 366 + 881}, {baseCode(), 6, "STSQ, PIV, 2T, CSP x, 2A x, 3A x", 1 + 7 + 130 + 358 + 366 + 881},
		{withLimits(baseCode(), 1, 1, 0, 0, 0), 2, "CSP, 3A x", 325 + 881},
		// Equal bases stand by their indices.
		{flatCode("0000", 7, 7, 7, 7), 3, "A, B, C x", 21}, {flatCode("3210", 7, 7, 7, 7), 4, "A, B, C x, D x", 28},
		{flatCode("0000", 9, 5, 9, 5), 3, "B, A, C x", 23}, {flatCode("0123", 9, 5, 9, 5), 4, "B, D, A x, C x", 28}, {flatCode("01230", 5, 9, 9, 9, 5), 5, "A, E, B, C x, D x", 37},
	} {
		if l, ok := impl.BestSingles(w.code, w.n); plainTexts(l) != w.want || !ok {
			t.Errorf("BestSingles of %sfor %d = %s, %v; want %s", namesOf(w.code), w.n, plainTexts(l), ok, w.want)
		}
		if base, ok := impl.SinglesBase(w.code, w.n); base != w.base || !ok {
			t.Errorf("SinglesBase of %sfor %d = %d, %v; want %d", namesOf(w.code), w.n, base, ok, w.base)
		}
	}
}

func TestPromise6BestSingleProgrammeIsOne(t *testing.T) {
	for _, c := range planCodes() {
		most, _ := impl.MostSingles(c)
		before := 0
		for n := 1; n <= most; n++ {
			names, ok := impl.BestNames(c, n)
			l, good := impl.BestSingles(c, n)
			checkRules(t, plainTexts(l), c, l, plainBroken(c, l)...)
			if is, fine := impl.IsProgramme(c, l); !is || !fine || !ok || !good || len(l) != n {
				t.Errorf("BestSingles of %+v for %d = %s, %v, with the names %v, %v", c, n, plainTexts(l), good, names, ok)
			}
			var indices []int
			for i, it := range l {
				at := slices.IndexFunc(c.Elements, func(x impl.Element) bool { return slices.Equal(it.Names, []string{x.Name}) })
				indices = append(indices, at)
				if i > 0 && (c.Elements[at].Base < c.Elements[indices[i-1]].Base || c.Elements[at].Base == c.Elements[indices[i-1]].Base && at < indices[i-1]) {
					t.Errorf("BestSingles of %+v for %d = %s: item %d is not in order", c, n, plainTexts(l), i)
				}
			}
			slices.Sort(indices)
			if !slices.Equal(indices, names) {
				t.Errorf("BestSingles of %+v for %d = %s has the elements %v, not %v", c, n, plainTexts(l), indices, names)
			}
			base, ok := impl.SinglesBase(c, n)
			if whole, good := impl.ProgrammeBase(c, l); base != whole || base != sumOf(plainBases(c, l)) || base < before || !ok || !good {
				t.Errorf("SinglesBase of %+v for %d = %d, %v; ProgrammeBase = %d, %v; it was %d before", c, n, base, ok, whole, good, before)
			}
			before = base
		}
	}
}

func TestPromise6NoSingleProgrammeIsBetter(t *testing.T) {
	for _, c := range smallCodes() {
		for n := 1; n <= len(c.Elements); n++ {
			best, ok := impl.SinglesBase(c, n)
			there, reached := false, false
			everySingle(c, n, func(l []impl.Item) {
				base, good := impl.ProgrammeBase(c, l)
				there, reached = true, reached || base == best
				if base > best || !good {
					t.Errorf("%+v: %s has the base %d, %v; SinglesBase is %d", c, plainTexts(l), base, good, best)
				}
			})
			if ok != there || reached != there {
				t.Errorf("SinglesBase of %+v for %d = %d, %v; reached: %v", c, n, best, ok, reached)
			}
		}
	}
}

func TestCountSingles(t *testing.T) {
	for _, w := range []struct {
		code   impl.Code
		counts []int // for n = 1, 2, ...; 0 for further ones
	}{
		{withLimits(planCode(), 0, 0, 0, 0, 0), nil},
		{withLimits(smallCode(), 9, 0, 0, 0, 0), []int{1}},
		{withLimits(flatCode("0000", 1, 2, 3, 4), 9, 0, 0, 0, 0), []int{4, 6, 4, 1}},
		{withLimits(flatCode("0000", 1, 2, 3, 4), 4, 0, 0, 0, 0), []int{4, 6, 4, 1}},
		{withLimits(flatCode("0000", 1, 2, 3, 4), 3, 0, 0, 0, 0), []int{4, 6, 4}},
		{withLimits(flatCode("0000", 1, 2, 3, 4), 1, 9, 9, 9, 9), []int{4}},
		{withLimits(flatCode("0011", 1, 2, 3, 4), 1, 1, 0, 0, 0), []int{4, 4}},
		{withLimits(flatCode("00111", 1, 2, 3, 4, 5), 1, 2, 0, 0, 0), []int{5, 9, 6}},
		{withLimits(flatCode("01234", 1, 2, 3, 4, 5), 1, 1, 1, 1, 1), []int{5, 10, 10, 5, 1}},
		{wideCode(), []int{24, 276, 2024, 10626, 42504, 134596, 346104, 735471, 1307504, 1961256, 2496144, 2704156, 2496144, 1961256}},
		{largeCode(), []int{24, 276, 2024, 10626, 42504, 134596, 346104, 735471, 1307504}},
	} {
		for n := 1; n <= 14; n++ {
			want := append(w.counts, make([]int, 14)...)[n-1]
			if count, ok := impl.CountSingles(w.code, n); count != want || !ok {
				t.Errorf("CountSingles of %swith the limits %v for %d = %d, %v; want %d", namesOf(w.code), w.code.Limits, n, count, ok, want)
			}
		}
	}
}

func TestCountSinglesOfSmallCodes(t *testing.T) {
	for _, c := range append(smallCodes(), planCodes()...) {
		if len(c.Elements) > 11 {
			continue
		}
		for n := 1; n <= 14; n++ {
			if count, ok := impl.CountSingles(c, n); count != plainCount(c, n) || !ok {
				t.Errorf("CountSingles of %+v for %d = %d, %v; want %d", c, n, count, ok, plainCount(c, n))
			}
		}
	}
	// Each list of indices stands for all orders of its programme.
	for _, c := range smallCodes() {
		orders := 1
		for n := 1; n <= len(c.Elements); n++ {
			orders *= n
			programmes := 0
			everySingle(c, n, func([]impl.Item) { programmes++ })
			if count, ok := impl.CountSingles(c, n); orders*count != programmes || !ok {
				t.Errorf("CountSingles of %+v for %d = %d, %v; there are %d programmes in some order", c, n, count, ok, programmes)
			}
		}
	}
}

func TestOrderForLate(t *testing.T) {
	// The bases are 2A 330, 2T 130, 3A 800, 3F 530, 3S 430, CSP 320, FCSP 350, PIV 200 and STSQ 330.
	for _, w := range []struct{ before, after []string }{
		{[]string{"3A"}, []string{"3A"}}, {[]string{"2A+2T+3A"}, []string{"2A+2T+3A"}},
		{[]string{"3A", "2T"}, []string{"2T", "3A"}}, {[]string{"2T", "3A"}, []string{"2T", "3A"}}, {[]string{"3A", "CSP", "2T"}, []string{"2T", "CSP", "3A"}},
		// Combined items count with all of their names: 460, 530, 960 and 860.
		{[]string{"2A+2T", "3S", "CSP"}, []string{"CSP", "3S", "2A+2T"}}, {[]string{"2T+2A", "3F"}, []string{"2T+2A", "3F"}}, {[]string{"3F", "2T+2A"}, []string{"2T+2A", "3F"}},
		{[]string{"3A", "2T+3A"}, []string{"3A", "2T+3A"}}, {[]string{"2T+3A", "3A"}, []string{"3A", "2T+3A"}}, {[]string{"3F+2A", "3A", "PIV"}, []string{"PIV", "3A", "3F+2A"}},
		{[]string{"2T+2A+2T", "3F", "3S+2A", "PIV"}, []string{"PIV", "3F", "2T+2A+2T", "3S+2A"}},
		// Equal full bases stay in their order, also where several are late.
		{[]string{"2A", "STSQ"}, []string{"2A", "STSQ"}}, {[]string{"STSQ", "2A"}, []string{"STSQ", "2A"}}, {[]string{"STSQ", "CSP", "2A"}, []string{"CSP", "STSQ", "2A"}},
		{[]string{"2A+2T", "2T+2A"}, []string{"2A+2T", "2T+2A"}}, {[]string{"2T+2A", "2A+2T"}, []string{"2T+2A", "2A+2T"}}, {[]string{"FCSP", "STSQ", "3A", "2A"}, []string{"STSQ", "2A", "FCSP", "3A"}},
		// Late, 2A would be worth 363, and CSP 352, more than the earlier ones.
		{[]string{"FCSP", "2A"}, []string{"2A", "FCSP"}}, {[]string{"FCSP", "2T", "CSP"}, []string{"2T", "CSP", "FCSP"}}, {[]string{"2A", "CSP"}, []string{"CSP", "2A"}},
	} {
		c := planCode()
		if l, ok := impl.OrderForLate(c, planned(w.before...)); !sameItems(l, planned(w.after...)) || !ok {
			t.Errorf("OrderForLate of %v = %s, %v; want %v", w.before, plainTexts(l), ok, w.after)
		}
	}
}

// Without a difference between any two items their order stays as it is.
func TestOrderForLateOfEqualBases(t *testing.T) {
	c := wideCode()
	c.Bonus = 20
	for seed := range 30 {
		l := grownPlan(seed, 14, c)
		for i := range l {
			// Single ones only, as combined ones are worth more.
			if len(l[i].Names) > 1 {
				l[i] = plannedItem(l[i].Names[0])
			}
		}
		l = plainLate(l)
		checkRules(t, plainTexts(l), c, l)
		if ordered, ok := impl.OrderForLate(c, l); !sameItems(ordered, l) || !ok {
			t.Errorf("OrderForLate of %s = %s, %v", plainTexts(l), plainTexts(ordered), ok)
		}
	}
}

func TestPromise6OrdersForLateAreNotLess(t *testing.T) {
	gained := 0
	manyPlans(t, func(c impl.Code, l []impl.Item) {
		ordered, ok := impl.OrderForLate(c, l)
		if is, good := impl.IsProgramme(c, ordered); !is || !good || !ok || len(ordered) != len(l) {
			t.Errorf("OrderForLate of %s = %s, %v", plainTexts(l), plainTexts(ordered), ok)
			return
		}
		// An item moves behind those that are worth less and behind the equal ones that were before it.
		for k, it := range l {
			place := 0
			for i, other := range l {
				worth, full := plainFull(c, plannedItem(strings.Join(other.Names, "+"))), plainFull(c, plannedItem(strings.Join(it.Names, "+")))
				if worth < full || worth == full && i < k {
					place++
				}
			}
			if !slices.Equal(ordered[place].Names, it.Names) || ordered[place].Late != (2*place >= len(l)) {
				t.Errorf("OrderForLate of %s = %s; item %d is not at %d", plainTexts(l), plainTexts(ordered), k, place)
			}
		}
		before, good := impl.ProgrammeBase(c, l)
		after, fine := impl.ProgrammeBase(c, ordered)
		if after < before || !good || !fine {
			t.Errorf("%s has the base %d, %v, and %s has %d, %v", plainTexts(l), before, good, plainTexts(ordered), after, fine)
		}
		if after > before {
			gained++
		}
		if again, ok := impl.OrderForLate(c, ordered); !sameItems(again, ordered) || !ok {
			t.Errorf("OrderForLate of %s = %s, %v", plainTexts(ordered), plainTexts(again), ok)
		}
	})
	if gained < 100 {
		t.Errorf("only %d programmes gained", gained)
	}
}

func TestReplaceGain(t *testing.T) {
	// The bases are 130, 760 and, late, 352 and 220.
	l := planned("2T", "2A+3S", "CSP", "PIV")
	for k, gains := range []map[string]int{
		{"2T": 0, "2A": 200, "3A": 670, "3F": 400, "3S": 300, "FCSP": 220, "STSQ": 200},
		{"2A": -430, "3S": -330, "3A": 40, "3F": -230, "FCSP": -410, "STSQ": -430},
		{"CSP": 0, "FCSP": 33, "STSQ": 11, "2A": 11, "3A": 528, "3F": 231, "3S": 121},
		{"PIV": 0, "STSQ": 143, "FCSP": 165, "2A": 143, "3A": 660, "3F": 363, "3S": 253},
	} {
		for _, name := range []string{"2A", "2T", "3A", "3F", "3S", "CSP", "FCSP", "LIFT", "PIV", "STSQ"} {
			want, good := gains[name]
			if n, ok := impl.ReplaceGain(planCode(), l, k, name); n != want || ok != good {
				t.Errorf("ReplaceGain of item %d with %s = %d, %v; want %d, %v", k, name, n, ok, want, good)
			}
		}
		// What the code does not have, and what is no name at all.
		for _, name := range []string{"3T", "2", "2AA", "A", "ZZZZZ", "0", "", "2a", "2A ", " 2A", "2A<", "2A+2T", "2A\n", "ABCDEF", "\x00", "\xff", "\u20ac", strings.Repeat("3A", 10000)} {
			if n, ok := impl.ReplaceGain(planCode(), l, k, name); n != 0 || ok {
				t.Errorf("ReplaceGain of item %d with %.20q = %d, %v", k, name, n, ok)
			}
		}
	}
	for _, k := range append([]int{-4, -3, 4, 5, 14}, wild...) {
		if k < 0 || k > 3 {
			if n, ok := impl.ReplaceGain(planCode(), l, k, "3A"); n != 0 || ok {
				t.Errorf("ReplaceGain of item %d = %d, %v", k, n, ok)
			}
		}
	}
}

func TestReplaceGainOnlyOfProgrammes(t *testing.T) {
	for _, w := range []struct {
		what string
		code impl.Code
		list []impl.Item
		k    int
		name string
	}{
		{"a second single one", planCode(), planned("3A", "2T"), 1, "3A"},
		{"a third one", planCode(), planned("2A+2T", "2A", "2T"), 2, "2A"},
		{"a second one with Repeats 1", planCodeWith(1, 4, 2, 1, 0, 1), planned("2A+2T", "3A"), 1, "2A"},
		{"a third spin", planCode(), planned("CSP", "FCSP", "3A"), 2, "CSP"},
		{"a fifth jump", planCode(), planned("2A", "2T", "3A", "3F", "PIV"), 4, "3S"},
		{"a lift", planCode(), planned("2A"), 0, "LIFT"},
		{"what excuses another one", planCode(), planned("2A", "2A+2T"), 1, "2A"},
		{"what excuses others", planCodeWith(3, 9, 2, 1, 0, 1), planned("2A", "2A", "2A+2T"), 2, "3A"},
	} {
		if n, ok := impl.ReplaceGain(w.code, w.list, w.k, w.name); n != 0 || ok || len(plainBroken(w.code, w.list)) > 0 {
			t.Errorf("%s: ReplaceGain of %s = %d, %v", w.what, plainTexts(w.list), n, ok)
		}
	}
	// The same name of the family instead of another one, and a limit that is met.
	if n, ok := impl.ReplaceGain(planCode(), planned("CSP", "FCSP", "3A"), 0, "CSP"); n != 0 || !ok {
		t.Errorf("ReplaceGain with the own name = %d, %v", n, ok)
	}
	if n, ok := impl.ReplaceGain(planCode(), planned("2A", "2T", "3A", "3F"), 1, "3S"); n != 300 || !ok {
		t.Errorf("ReplaceGain with another jump = %d, %v", n, ok)
	}
	// A list that is a programme only afterwards.
	for _, l := range [][]impl.Item{planned("3T"), planned("LIFT"), planned("2A+CSP"), {called("2A", false, 1)}, {called("2A", true, 0)}} {
		if n, ok := impl.ReplaceGain(planCode(), l, 0, "3A"); n != 0 || ok {
			t.Errorf("ReplaceGain of %s = %d, %v", plainTexts(l), n, ok)
		}
		if k, i, n, ok := impl.BestReplace(planCode(), l); k != 0 || i != 0 || n != 0 || ok {
			t.Errorf("BestReplace of %s = %d, %d, %d, %v", plainTexts(l), k, i, n, ok)
		}
	}
}

func TestBestReplace(t *testing.T) {
	for _, w := range []struct {
		code      impl.Code
		list      []impl.Item
		k, i, sum int
	}{
		{planCode(), planned("2T", "2A+3S", "CSP", "PIV"), 0, 2, 670}, {planCode(), planned("2A+3S", "2T", "CSP"), 1, 2, 670}, {planCode(), planned("3A", "CSP"), 1, 3, 231},
		// A gain that is greater because the item is late.
		{planCode(), planned("2A", "STSQ"), 1, 2, 517}, {planCode(), planned("CSP", "STSQ"), 1, 2, 517}, {planCode(), planned("STSQ", "2A"), 1, 2, 517},
		// Equal gains: the first item, then the first element.
		{flatCode("000", 10, 20, 20), planned("A"), 0, 1, 10}, {flatCode("000", 20, 20, 10), planned("C"), 0, 0, 10}, {flatCode("000", 10, 20, 20), planned("B", "A"), 1, 2, 10},
		{flatCode("0000", 10, 20, 10, 20), planned("A", "C"), 0, 1, 10}, {flatCode("0000", 10, 20, 10, 20), planned("C", "A"), 0, 1, 10}, {flatCode("0000", 10, 20, 10, 20), planned("B", "C", "A"), 1, 3, 10},
		{flatCode("00000", 30, 20, 10, 15, 20), planned("B", "C", "D"), 1, 0, 20}, {flatCode("00000", 30, 20, 10, 25, 20), planned("B", "D", "E"), 0, 0, 10},
		// The greatest element may not be taken.
		{withLimits(flatCode("0123", 9, 50, 40, 30), 9, 0, 9, 9, 9), planned("A", "D"), 0, 2, 31}, {withLimits(flatCode("0012", 9, 10, 50, 49), 2, 0, 9, 9, 9), planned("A", "D"), 0, 1, 1},
		{planCode(), planned("3A", "3F", "3S", "2A", "CSP"), 4, 6, 33}, {planCodeWith(1, 4, 0, 0, 0, 0), planned("2T+2A+3A", "3F"), 0, 0, 0}, {planCodeWith(1, 1, 1, 0, 0, 0), planned("CSP", "3F"), 1, 2, 297},
		// No gain is positive.
		{withLimits(smallCode(), 1, 0, 0, 0, 0), planned("A"), 0, 0, 0}, {planCode(), planned("3A"), 0, 0, 0}, {planCode(), planned("3F", "3A"), 0, 0, 0}, {flatCode("000", 10, 10, 10), planned("B"), 0, 0, 0},
		{planCode(), planned("3A+3F+3S"), 0, 0, 0},
	} {
		if k, i, n, ok := impl.BestReplace(w.code, w.list); k != w.k || i != w.i || n != w.sum || ok != (w.sum > 0) {
			t.Errorf("BestReplace of %s = %d, %d, %d, %v; want %d, %d, %d", plainTexts(w.list), k, i, n, ok, w.k, w.i, w.sum)
		}
	}
}

func TestBestReplaceAndEachGain(t *testing.T) {
	positive, negative, broken, none := 0, 0, 0, 0
	manyPlans(t, func(c impl.Code, l []impl.Item) {
		item, element, most := 0, 0, 0
		for k := range l {
			for i, x := range c.Elements {
				n, ok := impl.ReplaceGain(c, l, k, x.Name)
				if want, good := plainGain(c, l, k, x.Name); n != want || ok != good {
					t.Errorf("%+v: ReplaceGain of %s, item %d with %s = %d, %v; want %d, %v", c, plainTexts(l), k, x.Name, n, ok, want, good)
				}
				switch {
				case !ok:
					broken++
				case n < 0:
					negative++
				case n > 0:
					positive++
				}
				if n > most {
					item, element, most = k, i, n
				}
			}
		}
		if most == 0 {
			none++
		}
		if k, i, n, ok := impl.BestReplace(c, l); k != item || i != element || n != most || ok != (most > 0) {
			t.Errorf("%+v: BestReplace of %s = %d, %d, %d, %v; want %d, %d, %d", c, plainTexts(l), k, i, n, ok, item, element, most)
		}
	})
	if min(positive, negative, broken) < 1000 || none < 10 {
		t.Errorf("only %d positive and %d negative gains, %d that are none, and %d programmes without a gain", positive, negative, broken, none)
	}
}

// What is best already has no gain, since it is single again behind each replacement.
func TestBestReplaceOfBestSingles(t *testing.T) {
	for _, c := range planCodes() {
		for n := 1; n <= plainMost(c); n++ {
			l, _ := impl.BestSingles(c, n)
			if k, i, gain, ok := impl.BestReplace(c, l); k != 0 || i != 0 || gain != 0 || ok {
				t.Errorf("%+v: BestReplace of %s = %d, %d, %d, %v", c, plainTexts(l), k, i, gain, ok)
			}
		}
	}
}

func TestPlanBound(t *testing.T) {
	for _, w := range []struct {
		code   impl.Code
		bounds []int // for n = 1, 2, ...
	}{
		// The numbers are 801, 801, 333, 333, 325 | 325, 130, 130, 7, 7, 1, 1, and then there are no more.
		{baseCode(), []int{2853 + 1, 3210 + 2, 3353 + 3, 3496 + 4, 3504 + 5, 3512 + 6, 3513 + 7, 3514 + 8, 3514 + 9, 3514 + 10, 3514 + 11, 3514 + 12, 3514 + 13, 3514 + 14}},
		{baseCodeWith(1, 0, 75), []int{1596 + 1, 1597 + 2, 1597 + 3, 1597 + 4}},
		{baseCodeWith(3, 20, 75), []int{(3*801+2*333)*12/10 + 1 + 1, (3*801+3*333)*12/10 + 1 + 2, (3*801+3*333+325)*12/10 + 1 + 3}},
		// Without a remainder: 100, 200 and 300 with 10 percent, and 25 with 4.
		{oneElement(100, 1, 10, 50), []int{111, 112, 113}}, {oneElement(100, 2, 10, 50), []int{221, 222}}, {oneElement(100, 3, 10, 50), []int{331, 332}}, {oneElement(25, 1, 4, 50), []int{27, 28}},
		// With the least and the greatest remainder.
		{oneElement(1, 1, 1, 50), []int{3, 4}}, {oneElement(99, 1, 1, 50), []int{101, 102}}, {oneElement(101, 1, 1, 50), []int{104, 105}}, {oneElement(100, 1, 1, 50), []int{102, 103}}, {oneElement(199, 1, 1, 50), []int{202}},
		{oneElement(1, 1, 0, 50), []int{2, 3}}, {oneElement(2000, 3, 20, 50), []int{7201, 7202}},
		// 24 numbers each time, or 72, of which at most 18 count.
		{largeCode(), []int{12001, 14402, 16803, 19204, 21605, 24006, 26407, 28808, 31209, 33610, 36011, 38412, 40813, 43214}},
		{wideCode(), []int{51, 62, 73, 84, 95, 106, 117, 128, 139, 150, 161, 172, 183, 194}},
	} {
		for i, want := range w.bounds {
			for _, limit := range []int{0, 9} {
				c := withLimits(w.code, slices.Repeat([]int{limit}, 5)...)
				if bound, ok := impl.PlanBound(c, i+1); bound != want || !ok {
					t.Errorf("PlanBound of %swith Repeats %d and the bonus %d for %d = %d, %v; want %d", namesOf(c), c.Repeats, c.Bonus, i+1, bound, ok, want)
				}
			}
		}
	}
	for _, c := range planCodes() {
		for n := 1; n <= 14; n++ {
			if bound, ok := impl.PlanBound(c, n); bound != plainBound(c, n) || !ok {
				t.Errorf("PlanBound of %+v for %d = %d, %v; want %d", c, n, bound, ok, plainBound(c, n))
			}
		}
	}
}

func TestPromise6NoProgrammeExceedsTheBound(t *testing.T) {
	check := func(c impl.Code, l []impl.Item) {
		base, ok := impl.ProgrammeBase(c, l)
		bound, good := impl.PlanBound(c, len(l))
		if base > bound || !ok || !good {
			t.Errorf("%+v: %s has the base %d, %v, and the bound is %d, %v", c, plainTexts(l), base, ok, bound, good)
		}
	}
	manyPlans(t, func(c impl.Code, l []impl.Item) {
		check(c, l)
		ordered, _ := impl.OrderForLate(c, l)
		check(c, ordered)
	})
	for _, c := range planCodes() {
		for n := 1; n <= plainMost(c); n++ {
			l, _ := impl.BestSingles(c, n)
			check(c, l)
		}
	}
	// As near to the bound as programmes come: as many names as there may be, each of them worth the same.
	for _, base := range []int{1, 2, 3, 5, 99, 2000} {
		for bonus := range 21 {
			c := largeCode()
			c.Bonus, c.Limits = bonus, []int{9, 9, 9, 9, 9}
			for i := range c.Elements {
				c.Elements[i].Family, c.Elements[i].Base = 0, base
			}
			name := func(i int) string { return c.Elements[i].Name }
			for _, texts := range [][]string{
				{name(0) + "+" + name(0) + "+" + name(0)}, {name(0) + "+" + name(1), name(0) + "+" + name(1) + "+" + name(2)},
				{name(3), name(0) + "+" + name(1), name(0) + "+" + name(1) + "+" + name(2), name(0) + "+" + name(4)}, {name(3), name(4), name(5), name(6), name(0) + "+" + name(1), name(0) + "+" + name(1) + "+" + name(2), name(0) + "+" + name(7)},
			} {
				if l := planned(texts...); len(plainBroken(c, l)) == 0 {
					check(c, l)
				} else {
					t.Errorf("%s is no programme", plainTexts(l))
				}
			}
		}
	}
}

// checkNoPlans checks that all functions with a code and a list fail.
func checkNoPlans(t *testing.T, what string, c impl.Code, l []impl.Item) {
	t.Helper()
	names := []string{"", "A", "2T", "3A"}
	for _, x := range c.Elements[:min(3, len(c.Elements))] {
		names = append(names, x.Name)
	}
	calm(t, what, func() {
		if x, ok := impl.OrderForLate(c, l); !isNoProgramme(x, ok) {
			t.Errorf("%s: OrderForLate = %s, %v", what, plainTexts(x), ok)
		}
		for k := -1; k <= min(len(l), 15); k++ {
			for _, name := range names {
				if n, ok := impl.ReplaceGain(c, l, k, name); n != 0 || ok {
					t.Errorf("%s: ReplaceGain of item %d with %q = %d, %v", what, k, name, n, ok)
				}
			}
		}
		if k, i, n, ok := impl.BestReplace(c, l); k != 0 || i != 0 || n != 0 || ok {
			t.Errorf("%s: BestReplace = %d, %d, %d, %v", what, k, i, n, ok)
		}
	})
}

func TestPlansOnlyOfProgrammes(t *testing.T) {
	others := 0
	for _, l := range append(shortLists(), someLists()...) {
		if c := planCode(); len(plainBroken(c, l)) > 0 {
			checkNoPlans(t, plainTexts(l), c, l)
			others++
		}
	}
	for seed := range 300 {
		c := planCodes()[seed%60]
		if l := mixedPlan(seed, seed%15, c); len(plainBroken(c, l)) > 0 {
			checkNoPlans(t, plainTexts(l), c, l)
			others++
		}
	}
	if others < 1000 {
		t.Errorf("only %d lists that are no programmes", others)
	}
	// A bad item or a rule that does not hold, at one place each.
	good := planned("3A", "2T+2A", "CSP", "STSQ")
	for what, change := range map[string]func(l []impl.Item){
		"an unknown name":      func(l []impl.Item) { l[2] = plannedItem("3T") },
		"an unknown last one":  func(l []impl.Item) { l[3] = called("3T", true, 0) },
		"a mark":               func(l []impl.Item) { l[1].Marks[1] = 1 },
		"a mark of a late one": func(l []impl.Item) { l[3].Marks[0] = 3 },
		"a combined spin":      func(l []impl.Item) { l[1].Names[0] = "FCSP" },
		"a lift":               func(l []impl.Item) { l[0].Names[0] = "LIFT" },
		"a second single one":  func(l []impl.Item) { l[3].Names[0] = "CSP" },
		"late too early":       func(l []impl.Item) { l[1].Late = true },
		"not late":             func(l []impl.Item) { l[2].Late = false },
		"all late":             func(l []impl.Item) { l[0].Late, l[1].Late = true, true },
		"none late":            func(l []impl.Item) { l[2].Late, l[3].Late = false, false },
		"a zero item":          func(l []impl.Item) { l[2] = impl.Item{} },
		"the order for late":   func(l []impl.Item) { l[0], l[3] = l[3], l[0] },
	} {
		checkNoPlans(t, what, planCode(), changedPlan(good, change))
	}
	checkNoPlans(t, "nothing", planCode(), nil)
	checkNoPlans(t, "an empty list", planCode(), []impl.Item{})
	checkNoPlans(t, "a zero item", planCode(), []impl.Item{{}})
	checkNoPlans(t, "a zero code", impl.Code{}, good)
	checkNoPlans(t, "zero values", impl.Code{}, nil)
}

func TestPromise33PlansWithBadCodes(t *testing.T) {
	bad := badCodes()
	bad["zero"] = impl.Code{}
	for what, c := range bad {
		before := copiedCode(c)
		name := "A"
		if len(c.Elements) > 0 {
			name = c.Elements[0].Name
		}
		for _, l := range [][]impl.Item{nil, planned("3A"), planned("3A", "2T", "STSQ"), planned("A", "B"), {{Names: []string{name}, Marks: []int{0}}}, mixedItems(1, 14)} {
			checkNoPlans(t, what, c, l)
		}
		calm(t, what, func() {
			if n, ok := impl.MostSingles(c); n != 0 || ok {
				t.Errorf("%s: MostSingles = %d, %v", what, n, ok)
			}
			for n := range 16 {
				if names, ok := impl.BestNames(c, n); len(names) != 0 || ok {
					t.Errorf("%s: BestNames = %v, %v", what, names, ok)
				}
				if l, ok := impl.BestSingles(c, n); !isNoProgramme(l, ok) {
					t.Errorf("%s: BestSingles = %s, %v", what, plainTexts(l), ok)
				}
				for name, call := range map[string]func(impl.Code, int) (int, bool){"SinglesBase": impl.SinglesBase, "CountSingles": impl.CountSingles, "PlanBound": impl.PlanBound} {
					if x, ok := call(c, n); x != 0 || ok {
						t.Errorf("%s: %s of %d = %d, %v", what, name, n, x, ok)
					}
				}
			}
		})
		if !reflect.DeepEqual(copiedCode(c), before) {
			t.Errorf("%s: the code is changed", what)
		}
	}
}

func TestPromise33PlansOfBadLists(t *testing.T) {
	for what, l := range badPlans() {
		before := copiedItems(l)
		checkNoPlans(t, what, wideCode(), l)
		checkNoPlans(t, what+", zero code", impl.Code{}, l)
		if !sameItems(l, before) {
			t.Errorf("%s: the list is changed", what)
		}
	}
}

func TestPromise33PlansAcceptAllArguments(t *testing.T) {
	for _, a := range wild {
		for _, b := range wild {
			calm(t, "calls with wild numbers", func() {
				l := planned("3A", "2T+2A", "STSQ")
				for _, c := range []impl.Code{planCode(), planCodeWith(a, b, 2, 1, 0, 1), planCodeWith(2, 4, a, 1, b, 0), oneElement(a, b, 1, 50), oneElement(1, 1, a, b), flatCode("0000", a, b, a, 1)} {
					impl.MostSingles(c)
					impl.BestNames(c, b)
					impl.BestSingles(c, a)
					impl.SinglesBase(c, b)
					impl.CountSingles(c, a)
					impl.OrderForLate(c, append(l, called("CSP", true, a)))
					impl.ReplaceGain(c, l, a, "3A")
					impl.ReplaceGain(c, nil, b, "")
					impl.BestReplace(c, append(l, called("CSP", true, b)))
					impl.PlanBound(c, b)
				}
			})
		}
	}
}

func TestPromise33PlansLeaveArgumentsAsTheyAre(t *testing.T) {
	for i, code := range planCodes() {
		c, sameCode := sparedCode(code)
		// More than one programme, and lists that are none.
		for n, original := range [][]impl.Item{grownPlan(i, 14, code), grownPlan(i+1, 5, code), mixedPlan(i, 9, code), someItems(), nil} {
			l, same := sparedItems(original)
			impl.MostSingles(c)
			for items := range 16 {
				names, _ := impl.BestNames(c, items)
				spoilNumbers(names)
				singles, _ := impl.BestSingles(c, items)
				spoilItems(singles)
				impl.SinglesBase(c, items)
				impl.CountSingles(c, items)
				impl.PlanBound(c, items)
			}
			ordered, _ := impl.OrderForLate(c, l)
			spoilItems(ordered)
			for k := range l {
				impl.ReplaceGain(c, l, k, c.Elements[0].Name)
				impl.ReplaceGain(c, l, k, "ZZZZZ")
			}
			impl.BestReplace(c, l)
			if !sameCode() || !same() {
				t.Errorf("%s is changed, or the code %d: list %d", plainTexts(original), i, n)
			}
		}
	}
}

func TestPromise33ResultsOfPlansShareNothing(t *testing.T) {
	// The names of the first two and all marks of the argument are the same memory.
	shared := func() []impl.Item {
		names, marks := []string{"2A", "2T", "3A"}, []int{0, 0, 0}
		return []impl.Item{{Names: names[:3], Marks: marks[:3]}, {Names: names[:2], Marks: marks[:2]}, {Names: []string{"CSP"}, Marks: marks[:1], Late: true}, {Names: []string{"STSQ"}, Marks: marks[:1], Late: true}}
	}
	checkRules(t, "the shared list", planCode(), shared())
	for what, call := range map[string]func() []impl.Item{
		"BestSingles of one":           func() []impl.Item { l, _ := impl.BestSingles(planCode(), 1); return l },
		"BestSingles":                  func() []impl.Item { l, _ := impl.BestSingles(planCode(), 8); return l },
		"OrderForLate":                 func() []impl.Item { l, _ := impl.OrderForLate(planCode(), planned("3A", "2T+2A", "STSQ")); return l },
		"OrderForLate of shared ones":  func() []impl.Item { l, _ := impl.OrderForLate(planCode(), shared()); return l },
		"OrderForLate of ordered ones": func() []impl.Item { l, _ := impl.OrderForLate(planCode(), planned("2T", "CSP", "3A")); return l },
	} {
		checkOwnMemory(t, what, call)
	}
	for n := 1; n <= 8; n++ {
		first, _ := impl.BestNames(planCode(), n)
		kept := slices.Clone(first)
		second, _ := impl.BestNames(planCode(), n)
		spoilNumbers(second)
		if third, ok := impl.BestNames(planCode(), n); !slices.Equal(first, kept) || !slices.Equal(third, kept) || len(kept) != n || !ok {
			t.Errorf("BestNames of %d: two results share memory", n)
		}
	}
}

// What is done to the arguments after a call must not reach its result.
func TestPromise33PlansKeepNoArguments(t *testing.T) {
	c, l := planCode(), planned("3A", "2T+2A", "STSQ")
	singles, ok := impl.BestSingles(c, 3)
	names, good := impl.BestNames(c, 3)
	ordered, fine := impl.OrderForLate(c, l)
	spoil(c)
	spoilItems(l)
	if plainTexts(singles) != "3S, 3F, 3A x" || !slices.Equal(names, []int{2, 3, 4}) || plainTexts(ordered) != "STSQ, 2T+2A, 3A x" || !ok || !good || !fine {
		t.Errorf("the results are %s, %v and %s now", plainTexts(singles), names, plainTexts(ordered))
	}
}

// What stands behind the length of a list, of its names or of a code's elements is not read.
func TestPromise33PlansReadNothingBehindLists(t *testing.T) {
	c, _ := sparedCode(withLimits(flatCode("00", 5, 6), 9, 9, 9, 9, 9))
	l, _ := sparedItems(planned("B", "A"))
	most, ok := impl.MostSingles(c)
	count, good := impl.CountSingles(c, 1)
	bound, fine := impl.PlanBound(c, 14)
	if most != 2 || count != 2 || bound != 25 || !ok || !good || !fine {
		t.Errorf("MostSingles = %d, %v; CountSingles = %d, %v; PlanBound = %d, %v", most, ok, count, good, bound, fine)
	}
	checkNoSingles(t, c, 3)
	if x, ok := impl.OrderForLate(c, l); !sameItems(x, planned("A", "B")) || !ok {
		t.Errorf("OrderForLate = %s, %v", plainTexts(x), ok)
	}
	if n, ok := impl.ReplaceGain(c, l, 0, "ZZZZZ"); n != 0 || ok {
		t.Errorf("ReplaceGain = %d, %v", n, ok)
	}
	if k, i, n, ok := impl.BestReplace(c, l); k != 0 || i != 0 || n != 0 || ok {
		t.Errorf("BestReplace = %d, %d, %d, %v", k, i, n, ok)
	}
}
