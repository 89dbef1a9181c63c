package tests

import (
	"fmt"
	"math/big"
	"reflect"
	"slices"
	"testing"

	"loop.example/g00912/impl"
)

// graded are valid marks with given grades.
func graded(grades string) impl.Marks {
	m := impl.Marks{Grades: rowsOf(grades)}
	m.Components = evenMarks(0, len(m.Grades[0]), 0, 500).Components
	return m
}

// worthCode has the element X with a base, and Y with the base 1; there are no bonus and no repetitions at full base.
func worthCode(base int) impl.Code {
	c := oneElement(base, 1, 0, 50)
	c.Elements = append(c.Elements, impl.Element{Name: "Y", Base: 1})
	return c
}

func plainUnit(c impl.Code, it impl.Item) int {
	unit := 0
	for i, name := range it.Names {
		unit = max(unit, plainWorth(c, name, it.Marks[i]))
	}
	return unit
}

// plainGradePoints are those of item k for the grades of some judges.
func plainGradePoints(c impl.Code, l []impl.Item, k int, grades []int) int {
	if plainBase(c, l, k) == 0 {
		return 0
	}
	return plainRound(new(big.Rat).Mul(plainMean(grades), big.NewRat(int64(plainUnit(c, l[k])), 10)), 0)
}

func plainScores(c impl.Code, l []impl.Item, grades [][]int) []int {
	var scores []int
	for k := range l {
		scores = append(scores, plainBase(c, l, k)+plainGradePoints(c, l, k, grades[k]))
	}
	return scores
}

// plainColumn are the scores if all judges give the grades of one of them.
func plainColumn(c impl.Code, l []impl.Item, m impl.Marks, judge int) []int {
	var rows [][]int
	for _, row := range m.Grades {
		rows = append(rows, repeated(row[judge], len(row)))
	}
	return plainScores(c, l, rows)
}

// plainLeast tries all grades, the least one first.
func plainLeast(c impl.Code, l []impl.Item, k, points int) (int, bool) {
	if k < 0 || k >= len(l) || points < 0 || points > 100000 {
		return 0, false
	}
	for grade := -5; grade <= 5; grade++ {
		if plainBase(c, l, k)+plainGradePoints(c, l, k, repeated(grade, 3)) >= points {
			return grade, true
		}
	}
	return 0, false
}

func plainBest(scores []int) (int, bool) {
	best := 0
	for k, n := range scores {
		if n > scores[best] {
			best = k
		}
	}
	return best, len(scores) > 0
}

// judgedLists calls a function with many codes, lists and marks that belong together; some marks are all equal.
func judgedLists(do func(c impl.Code, l []impl.Item, m impl.Marks)) {
	seed := 0
	knownLists(func(c impl.Code, l []impl.Item) {
		seed++
		do(c, l, mixedMarks(seed, len(l), 3+seed%7))
		if seed%3 == 0 {
			do(c, l, evenMarks(len(l), 3+seed%7, []int{-5, 0, 5}[seed/3%3], 500))
		}
	})
}

// pointsAround are points at which the least grade for a score may change, and others.
func pointsAround(scores []int) []int {
	points := []int{-1, 0, 1, 100, 5000, 99999, 100000, 100001}
	for _, n := range scores {
		points = append(points, n-1, n, n+1)
	}
	return points
}

// scoreAnswers are those of all functions with marks, for some items and judges.
func scoreAnswers(c impl.Code, l []impl.Item, m impl.Marks) map[string]answer {
	answers := map[string]answer{}
	add := func(what string, value any, ok bool) { answers[what] = answer{value, ok} }
	for k := range 14 {
		n, ok := impl.GradePoints(c, l, m, k)
		add(fmt.Sprint("GradePoints of ", k), n, ok)
		n, ok = impl.ItemScore(c, l, m, k)
		add(fmt.Sprint("ItemScore of ", k), n, ok)
	}
	for judge := range 9 {
		scores, ok := impl.ColumnOf(c, l, m, judge)
		add(fmt.Sprint("ColumnOf of ", judge), scores, ok)
	}
	scores, ok := impl.ItemScores(c, l, m)
	add("ItemScores", scores, ok)
	sum, ok := impl.ItemSum(c, l, m)
	add("ItemSum", sum, ok)
	k, ok := impl.BestItem(c, l, m)
	add("BestItem", k, ok)
	return answers
}

// gradeAnswers are those of the functions without marks.
func gradeAnswers(c impl.Code, l []impl.Item) map[string]answer {
	answers := map[string]answer{}
	for k := range 14 {
		for _, points := range []int{0, 1, 80, 400} {
			n, ok := impl.LeastGrade(c, l, k, points)
			answers[fmt.Sprint("LeastGrade of ", k, " for ", points)] = answer{n, ok}
		}
	}
	for k, it := range l {
		n, ok := impl.UnitOf(c, it)
		answers[fmt.Sprint("UnitOf of ", k)] = answer{n, ok}
	}
	return answers
}

// checkNothing checks that all answers are failures.
func checkNothing(t *testing.T, what string, answers map[string]answer) {
	t.Helper()
	for name, a := range answers {
		if a.ok || !isNothing(reflect.ValueOf(a.value)) {
			t.Errorf("%s: %s = %.300s, %v", what, name, fmt.Sprint(a.value), a.ok)
		}
	}
}

// checkNotJudged checks that a list and marks do not belong together, but the code and the list may be valid.
func checkNotJudged(t *testing.T, what string, c impl.Code, l []impl.Item, m impl.Marks, valid bool) {
	t.Helper()
	calm(t, what, func() {
		if is, ok := impl.AreJudged(c, l, m); is || ok != valid {
			t.Errorf("%s: AreJudged = %v, %v", what, is, ok)
		}
		checkNothing(t, what, scoreAnswers(c, l, m))
	})
}

// checkNoLeast checks that there is no least grade for a list.
func checkNoLeast(t *testing.T, what string, c impl.Code, l []impl.Item) {
	t.Helper()
	calm(t, what, func() {
		for k := -1; k <= min(len(l), 15); k++ {
			for _, points := range []int{-1, 0, 1, 100000} {
				if grade, ok := impl.LeastGrade(c, l, k, points); grade != 0 || ok {
					t.Errorf("%s: LeastGrade of %d for %d = %d, %v", what, k, points, grade, ok)
				}
			}
		}
	})
}

// checkScores checks all that is told of a list and marks that belong together.
func checkScores(t *testing.T, c impl.Code, l []impl.Item, m impl.Marks) {
	t.Helper()
	what := fmt.Sprint(plainTexts(l), m.Grades)
	if is, ok := impl.AreJudged(c, l, m); !is || !ok {
		t.Errorf("AreJudged of %s = %v, %v", what, is, ok)
	}
	scores := plainScores(c, l, m.Grades)
	if got, ok := impl.ItemScores(c, l, m); !slices.Equal(got, scores) || !ok {
		t.Errorf("ItemScores of %s = %v, %v; want %v", what, got, ok, scores)
	}
	if sum, ok := impl.ItemSum(c, l, m); sum != sumOf(scores) || !ok {
		t.Errorf("ItemSum of %s = %d, %v; want %d", what, sum, ok, sumOf(scores))
	}
	best, good := plainBest(scores)
	if k, ok := impl.BestItem(c, l, m); k != best || ok != good {
		t.Errorf("BestItem of %s = %d, %v; want %d", what, k, ok, best)
	}
	for k := -1; k <= len(l); k++ {
		points, score, there := 0, 0, k >= 0 && k < len(l)
		if there {
			points, score = plainGradePoints(c, l, k, m.Grades[k]), scores[k]
		}
		if n, ok := impl.GradePoints(c, l, m, k); n != points || ok != there {
			t.Errorf("GradePoints %d of %s = %d, %v; want %d", k, what, n, ok, points)
		}
		if n, ok := impl.ItemScore(c, l, m, k); n != score || ok != there {
			t.Errorf("ItemScore %d of %s = %d, %v; want %d", k, what, n, ok, score)
		}
	}
	judges := len(m.Components[0])
	for judge := -1; judge <= judges; judge++ {
		var column []int
		there := judge >= 0 && judge < judges
		if there {
			column = plainColumn(c, l, m, judge)
		}
		if got, ok := impl.ColumnOf(c, l, m, judge); !slices.Equal(got, column) || ok != there {
			t.Errorf("ColumnOf %d of %s = %v, %v; want %v", judge, what, got, ok, column)
		}
	}
}

// checkLeast checks the least grade of each item of a list that is known to a code.
func checkLeast(t *testing.T, c impl.Code, l []impl.Item) {
	t.Helper()
	for k := -1; k <= len(l); k++ {
		var scores []int
		for grade := -5; grade <= 5 && k >= 0 && k < len(l); grade++ {
			scores = append(scores, plainBase(c, l, k)+plainGradePoints(c, l, k, repeated(grade, 3)))
		}
		for _, points := range pointsAround(scores) {
			want, good := plainLeast(c, l, k, points)
			if grade, ok := impl.LeastGrade(c, l, k, points); grade != want || ok != good {
				t.Errorf("LeastGrade %d of %s for %d = %d, %v; want %d, %v", k, plainTexts(l), points, grade, ok, want, good)
			}
		}
	}
}

func TestElementScoreExample(t *testing.T) {
	c, l, m := worthCode(100), planned("X"), graded("1 2 2 3 5")
	if n, ok := impl.UnitOf(c, l[0]); n != 100 || !ok {
		t.Errorf("UnitOf = %d, %v", n, ok)
	}
	if n, ok := impl.GradePoints(c, l, m, 0); n != 23 || !ok {
		t.Errorf("GradePoints = %d, %v", n, ok)
	}
	if n, ok := impl.ItemScore(c, l, m, 0); n != 123 || !ok {
		t.Errorf("ItemScore = %d, %v", n, ok)
	}
}

func TestAreJudged(t *testing.T) {
	for n := range 17 {
		l := slices.Repeat(planned("2A"), n)
		for items := range 17 {
			is, ok := impl.AreJudged(baseCode(), l, mixedMarks(n, items, 5))
			if is != (n == items && n <= 14) || ok != (n <= 14) {
				t.Errorf("AreJudged of %d items with marks for %d = %v, %v", n, items, is, ok)
			}
		}
	}
	// No marks are marks for no items.
	if is, ok := impl.AreJudged(baseCode(), nil, impl.Marks{}); is || !ok {
		t.Errorf("AreJudged without marks = %v, %v", is, ok)
	}
	if is, ok := impl.AreJudged(baseCode(), []impl.Item{}, evenMarks(0, 3, 0, 0)); !is || !ok {
		t.Errorf("AreJudged without items = %v, %v", is, ok)
	}
}

func TestListsThatAreNotKnownAreNotJudged(t *testing.T) {
	for known, lists := range knownAndOther() {
		for _, l := range lists {
			m := mixedMarks(3, len(l), 4)
			if known {
				checkScores(t, baseCode(), l, m)
				checkLeast(t, baseCode(), l)
				continue
			}
			checkNotJudged(t, plainTexts(l), baseCode(), l, m, true)
			checkNoLeast(t, plainTexts(l), baseCode(), l)
		}
	}
}

func TestMarksForMoreOrFewerItems(t *testing.T) {
	for n := range 15 {
		l := knownItems(n, n, baseCode())
		for _, items := range []int{n - 2, n - 1, n + 1, n + 2, 14} {
			if items >= 0 && items != n {
				checkNotJudged(t, fmt.Sprint(n, " items with marks for ", items), baseCode(), l, mixedMarks(n, items, 5), true)
			}
		}
	}
}

func TestUnitOf(t *testing.T) {
	for _, w := range []struct {
		item impl.Item
		unit int
	}{
		{called("2A", false, 0), 333}, {called("2A", false, 1), 249}, {called("2A", false, 2), 299}, {called("2A", false, 3), 0}, {called("STSQ", false, 0), 1}, {called("STSQ", false, 1), 0},
		{called("2A 2T", false, 0, 0), 333}, {called("2T 2A", false, 0, 0), 333}, {called("2T 2A", false, 0, 3), 130}, {called("2A 2T", false, 3, 0), 130}, {called("2A 2T", false, 3, 3), 0},
		{called("2T 3A 2A", false, 0, 0, 0), 801}, {called("2T 2A 3A", false, 0, 0, 0), 801}, {called("3A 2T 2A", false, 0, 0, 0), 801},
		// Marks decide which worth is the greatest one: 3A called down is 600, void 0.
		{called("2T 3A 2A", false, 0, 1, 0), 600}, {called("2T 3A 2A", false, 0, 3, 0), 333}, {called("2T 3A 2A", false, 0, 3, 1), 249}, {called("2T 3A 2A", false, 0, 3, 3), 130},
		{called("2A CSP", false, 1, 0), 325}, {called("2A CSP", false, 2, 1), 299}, {called("2A CSP", false, 1, 2), 292},
		// One name several times.
		{called("CSP CSP CSP", false, 0, 0, 0), 325}, {called("CSP CSP CSP", false, 1, 0, 2), 325}, {called("CSP CSP CSP", false, 1, 3, 2), 292}, {called("CSP CSP CSP", false, 1, 1, 1), 243}, {called("CSP CSP", false, 3, 3), 0},
		// No bonus is in it.
		{called("2A", true, 0), 333}, {called("2A", true, 1), 249}, {called("2A 2T 3A", true, 0, 0, 0), 801}, {called("2A", true, 3), 0},
	} {
		if n, ok := impl.UnitOf(baseCode(), w.item); n != w.unit || !ok {
			t.Errorf("UnitOf of %s = %d, %v; want %d", plainText(w.item), n, ok, w.unit)
		}
	}
	for base := 1; base <= 2000; base++ {
		if n, ok := impl.UnitOf(worthCode(base), called("Y X", true, 0, 0)); n != base || !ok {
			t.Errorf("UnitOf of an item with the worth %d = %d, %v", base, n, ok)
		}
	}
	codes := []impl.Code{namedCode("2T", "3A", "EX")}
	for _, keeps := range []int{50, 67, 90, 91, 100} {
		c := copiedCode(codes[0])
		c.Elements[0].Base, c.Elements[1].Base, c.Elements[2].Base, c.Keeps = 133, 801, 57, keeps
		codes = append(codes, c)
	}
	for _, c := range codes {
		for _, it := range allCalls() {
			if n, ok := impl.UnitOf(c, it); n != plainUnit(c, it) || !ok {
				t.Errorf("UnitOf of %s = %d, %v; want %d", plainText(it), n, ok, plainUnit(c, it))
			}
		}
	}
}

func TestUnitOnlyOfKnownItems(t *testing.T) {
	for what, it := range otherItems() {
		before := copiedItem(it)
		calm(t, what, func() {
			if n, ok := impl.UnitOf(baseCode(), it); n != 0 || ok {
				t.Errorf("%s: UnitOf = %d, %v", what, n, ok)
			}
		})
		if !sameItem(it, before) {
			t.Errorf("%s is changed", what)
		}
	}
}

// One item with a unit and the grades of three, four, five, six and nine judges.
func TestGradePoints(t *testing.T) {
	for _, w := range []struct {
		unit   int
		grades string
		points int
	}{
		// Of three and four judges all grades count.
		{100, "1 2 3", 20}, {100, "5 0 0", 17}, {100, "-5 0 0", -17}, {100, "5 5 -5", 17}, {100, "1 0 0", 3}, {100, "1 1 0", 7}, {100, "-1 -1 0", -7}, {100, "-1 0 0", -3},
		{100, "5 0 0 0", 13}, {100, "-5 0 0 0", -12}, {100, "5 -5 1 1", 5}, {100, "5 5 5 -5", 25}, {100, "1 0 0 0", 3}, {100, "-1 0 0 0", -2}, {100, "-3 0 0 0", -7}, {100, "3 0 0 0", 8},
		// Of five and more one greatest and one least do not.
		{100, "1 2 2 3 5", 23}, {100, "5 3 2 2 1", 23}, {100, "5 0 0 0 0", 0}, {100, "-5 0 0 0 0", 0}, {100, "5 5 0 0 0", 17}, {100, "-5 -5 0 0 0", -17}, {100, "5 1 0 0 -5", 3}, {100, "5 -1 0 0 -5", -3}, {100, "5 5 5 5 -5", 50},
		{100, "5 1 0 0 0 -5", 3}, {100, "5 -1 0 0 0 -5", -2}, {100, "5 1 1 1 0 -5", 8}, {100, "5 -1 -1 -1 0 -5", -7}, {100, "4 4 4 4 4 4", 40}, {100, "5 5 5 5 5 -5", 50}, {100, "-5 -5 5 -5 -5 -5", -50},
		{100, "5 5 4 4 3 3 2 2 1", 33}, {100, "-5 -4 -3 -2 -1 0 1 2 3", -10}, {100, "5 1 0 0 0 0 0 0 -5", 1}, {100, "5 -1 0 0 0 0 0 0 -5", -1}, {100, "5 5 0 0 0 0 0 0 0", 7}, {100, "-5 0 0 0 0 0 0 -5 0", -7},
		{100, "5 1 0 0 0 0 0 -5", 2}, {100, "5 -1 0 0 0 0 0 -5", -2}, {100, "5 1 0 0 0 0 -5", 2}, {100, "5 -1 0 0 0 0 -5", -2},
		// Halves are rounded up, above 0 and below it.
		{1, "5 5 5", 1}, {1, "-5 -5 -5", 0}, {1, "4 4 4", 0}, {1, "-4 -4 -4", 0}, {3, "5 5 5 5", 2}, {3, "-5 -5 -5 -5", -1}, {5, "1 1 1", 1}, {5, "-1 -1 -1", 0}, {5, "3 3 3 3 3", 2}, {5, "-3 -3 -3 -3 -3", -1},
		{15, "1 1 1 1 1", 2}, {15, "-1 -1 -1 -1 -1", -1}, {15, "5 5 5 5 5 5", 8}, {15, "-5 -5 -5 -5 -5 -5", -7}, {2, "5 0 0 0", 0}, {10, "1 1 0 0", 1}, {10, "-1 -1 0 0", 0}, {10, "-3 0 0 0", -1}, {10, "-2 -2 -1 -1", -1}, {10, "2 2 1 1", 2},
		// Nothing is rounded before: 7 / 3 of 1999 / 10 is 466.43, and 2 / 3 of 29 / 10 is 1.93.
		{1999, "1 2 2 3 5", 466}, {29, "1 1 0", 2}, {29, "-1 -1 0", -2}, {2000, "5 5 5", 1000}, {2000, "-5 -5 -5 -5 -5 -5 -5 -5 -5", -1000}, {1999, "5 5 5 5 5", 1000}, {1999, "-5 -5 -5 -5 -5", -999},
		{777, "0 0 0", 0}, {777, "0 0 0 0 0 0 0 0 0", 0}, {777, "5 -5 0", 0}, {777, "5 5 -5 -5", 0}, {777, "3 -1 1 -3 0", 0},
	} {
		c, m := worthCode(w.unit), graded(w.grades)
		l := planned("X")
		if n, ok := impl.GradePoints(c, l, m, 0); n != w.points || !ok {
			t.Errorf("GradePoints of %d for %s = %d, %v; want %d", w.unit, w.grades, n, ok, w.points)
		}
		checkScores(t, c, l, m)
	}
}

// All grades of three judges and of five with few different grades, on bases at which halves and other parts arise.
func TestGradePointsOfAllGrades(t *testing.T) {
	for _, unit := range []int{1, 2, 3, 5, 10, 15, 99, 2000} {
		c, l := worthCode(unit), planned("X")
		check := func(grades []int) {
			m := evenMarks(1, len(grades), 0, 500)
			m.Grades[0] = grades
			want := plainGradePoints(c, l, 0, grades)
			if n, ok := impl.GradePoints(c, l, m, 0); n != want || !ok {
				t.Errorf("GradePoints of %d for %v = %d, %v; want %d", unit, grades, n, ok, want)
			}
		}
		everyList(3, -5, 5, check)
		for judges := 4; judges <= 6; judges++ {
			everyList(judges, -1, 1, check)
		}
	}
}

// The grades move the unit and not the base; without a base there are no grade points.
func TestScoresOfItems(t *testing.T) {
	for _, w := range []struct {
		item          impl.Item
		least, middle int
		greatest      int
	}{
		{called("2A", false, 0), 167, 333, 500}, {called("2A", false, 1), 125, 249, 374}, {called("2A", false, 2), 150, 299, 449}, {called("2A", false, 3), 0, 0, 0},
		{called("2A 2T", false, 0, 0), 297, 463, 630}, {called("2A 2T", false, 3, 0), 65, 130, 195}, {called("2A 2T", false, 1, 2), 242, 366, 491}, {called("2A 2T", false, 3, 3), 0, 0, 0},
		{called("CSP CSP CSP", false, 0, 0, 0), 813, 975, 1138}, {called("CSP CSP CSP", false, 3, 3, 2), 146, 292, 438},
		// The bonus of late items is in the base alone.
		{called("2A", true, 0), 200, 366, 533}, {called("2A 2T", true, 0, 0), 343, 509, 676}, {called("2A", true, 3), 0, 0, 0}, {called("CSP", true, 1), 146, 267, 389},
		{called("STSQ", false, 0), 1, 1, 2}, {called("STSQ", false, 1), 0, 0, 0}, {called("STSQ", false, 2), 0, 0, 0}, {called("PIV", false, 0), 4, 7, 11},
		{called("STSQ 2A", false, 0, 3), 1, 1, 2}, {called("STSQ STSQ", false, 0, 0), 2, 2, 3}, {called("STSQ STSQ STSQ", false, 2, 0, 1), 1, 1, 2},
	} {
		for judges := 3; judges <= 9; judges++ {
			for grade, want := range map[int]int{-5: w.least, 0: w.middle, 5: w.greatest} {
				l := []impl.Item{w.item}
				m := evenMarks(1, judges, grade, 0)
				if n, ok := impl.ItemScore(baseCode(), l, m, 0); n != want || !ok {
					t.Errorf("ItemScore of %s with grades %d = %d, %v; want %d", plainText(w.item), grade, n, ok, want)
				}
				checkScores(t, baseCode(), l, m)
			}
		}
	}
}

// Items that are repeated keep their unit, and have no grade points if they are repeated too often.
func TestScoresOfRepeatedItems(t *testing.T) {
	for _, w := range []struct {
		list                    []impl.Item
		least, middle, greatest []int
	}{
		{[]impl.Item{called("CSP", false, 0), called("2T", false, 0), called("CSP", true, 0)}, []int{163, 65, 196}, []int{325, 130, 358}, []int{488, 195, 521}},
		{[]impl.Item{called("CSP", false, 0), called("CSP", false, 0), called("CSP", false, 0), called("CSP", false, 0)}, []int{163, 163, 65, 0}, []int{325, 325, 227, 0}, []int{488, 488, 390, 0}},
		{[]impl.Item{called("CSP", false, 0), called("CSP", false, 3), called("CSP", false, 1), called("CSP", false, 2)}, []int{163, 0, 122, 58}, []int{325, 0, 243, 204}, []int{488, 0, 365, 350}},
		{[]impl.Item{called("CSP", false, 0), called("CSP", false, 0), called("CSP 2A", false, 0, 0), called("CSP 3A", true, 0, 0), called("2A", true, 0)},
			[]int{163, 163, 294, 0, 200}, []int{325, 325, 460, 0, 366}, []int{488, 488, 627, 0, 533}},
		// 7 tenths of 1 are 0, so that there is no base, but a unit; of 2 and more there is one.
		{[]impl.Item{called("STSQ", false, 0), called("STSQ", false, 0), called("STSQ", false, 0), called("STSQ", false, 0)}, []int{1, 1, 0, 0}, []int{1, 1, 0, 0}, []int{2, 2, 0, 0}},
		{[]impl.Item{called("STSQ", false, 0), called("STSQ", false, 0), called("STSQ STSQ", false, 0, 0)}, []int{1, 1, 1}, []int{1, 1, 1}, []int{2, 2, 2}},
		{[]impl.Item{called("2T CSP", false, 3, 0), called("2T", false, 0), called("2T", false, 0), called("2T CSP", false, 0, 3)}, []int{163, 65, 65, 26}, []int{325, 130, 130, 91}, []int{488, 195, 195, 156}},
	} {
		for judges := 3; judges <= 9; judges++ {
			for grade, want := range map[int][]int{-5: w.least, 0: w.middle, 5: w.greatest} {
				m := evenMarks(len(w.list), judges, grade, 1000)
				if scores, ok := impl.ItemScores(baseCode(), w.list, m); !slices.Equal(scores, want) || !ok {
					t.Errorf("ItemScores of %s with grades %d = %v, %v; want %v", plainTexts(w.list), grade, scores, ok, want)
				}
				checkScores(t, baseCode(), w.list, m)
			}
		}
		checkLeast(t, baseCode(), w.list)
	}
}

// An item without a base has no grade points, whatever the grades are.
func TestNoGradePointsWithoutBase(t *testing.T) {
	l := []impl.Item{called("X", false, 0), called("X", false, 0), called("X", false, 0), called("X", true, 3), called("Y", false, 1), called("Y", false, 2), called("Y", false, 0), called("Y", false, 0)}
	for _, grades := range []string{"5 5 5", "-5 -5 -5", "5 4 3 2 1 0 -1 -2 -3", "-5 -5 -5 -5 5"} {
		row := rowsOf(grades)[0]
		m := evenMarks(len(l), len(row), 0, 500)
		for k := range l {
			m.Grades[k] = slices.Clone(row)
		}
		for k, it := range l {
			base, _ := impl.ItemBase(worthCode(300), l, k)
			points, ok := impl.GradePoints(worthCode(300), l, m, k)
			if base == 0 && points != 0 || base != 0 && it.Names[0] == "X" && points == 0 || !ok {
				t.Errorf("item %d with the base %d and the grades %s has %d grade points, %v", k, base, grades, points, ok)
			}
		}
		for _, base := range []int{1, 2, 300, 2000} {
			checkScores(t, worthCode(base), l, m)
			checkLeast(t, worthCode(base), l)
		}
	}
}

// Grade points take at most half of the unit, and no base that is not 0 is less: scores are never below 0.
func TestLeastScores(t *testing.T) {
	reached := 0
	for base := 1; base <= 2000; base++ {
		c := worthCode(base)
		for _, l := range [][]impl.Item{
			{called("X", false, 0), called("X", false, 0), called("X", false, 0)}, {called("X", false, 1), called("X", false, 2), called("X", false, 0)}, {called("X X", false, 1, 1), called("X Y", true, 2, 0)},
		} {
			m := evenMarks(len(l), 3+base%7, -5, 0)
			scores, ok := impl.ItemScores(c, l, m)
			if want := plainScores(c, l, m.Grades); !slices.Equal(scores, want) || slices.Min(scores) < 0 || !ok {
				t.Errorf("ItemScores of %s with the base %d = %v, %v; want %v", plainTexts(l), base, scores, ok, want)
			}
			for k, n := range scores {
				if points, _ := impl.GradePoints(c, l, m, k); n == 0 && points < 0 {
					reached++
				}
			}
		}
	}
	if reached == 0 {
		t.Error("grade points never take all of a base")
	}
}

func TestItemsWithoutScores(t *testing.T) {
	for _, l := range [][]impl.Item{nil, {}, planned("2A"), planned("2A", "2T+2A", "CSP"), knownItems(9, 14, baseCode())} {
		m := mixedMarks(4, len(l), 5)
		for _, k := range append([]int{-14, -3, len(l) - 1, len(l), len(l) + 1, 13, 14, 15}, wild...) {
			there := k >= 0 && k < len(l)
			calm(t, "calls with an item", func() {
				if n, ok := impl.GradePoints(baseCode(), l, m, k); ok != there || !ok && n != 0 {
					t.Errorf("GradePoints of %s, item %d = %d, %v", plainTexts(l), k, n, ok)
				}
				if n, ok := impl.ItemScore(baseCode(), l, m, k); ok != there || !ok && n != 0 {
					t.Errorf("ItemScore of %s, item %d = %d, %v", plainTexts(l), k, n, ok)
				}
				if n, ok := impl.LeastGrade(baseCode(), l, k, 0); ok != there || n != 0 && n != -5 || ok != (n != 0) {
					t.Errorf("LeastGrade of %s, item %d = %d, %v", plainTexts(l), k, n, ok)
				}
			})
		}
	}
}

func TestScoresOfNoItems(t *testing.T) {
	for _, c := range append(someCodes(), baseCode()) {
		for _, l := range [][]impl.Item{nil, {}} {
			for judges := 3; judges <= 9; judges++ {
				m := mixedMarks(judges, 0, judges)
				if scores, ok := impl.ItemScores(c, l, m); len(scores) != 0 || !ok {
					t.Errorf("ItemScores = %v, %v", scores, ok)
				}
				if sum, ok := impl.ItemSum(c, l, m); sum != 0 || !ok {
					t.Errorf("ItemSum = %d, %v", sum, ok)
				}
				if k, ok := impl.BestItem(c, l, m); k != 0 || ok {
					t.Errorf("BestItem = %d, %v", k, ok)
				}
				checkScores(t, c, l, m)
			}
		}
	}
}

func TestColumnOf(t *testing.T) {
	// The bases are 333, 227 and 0, as only one CSP has all of it, and the late 143; the units are 333, 325, 325 and 130.
	l := []impl.Item{called("2A", false, 0), called("CSP", false, 0), called("CSP", false, 0), called("CSP", false, 0), called("2T", true, 0)}
	m := graded("0 2 -1 5 -5; 1 1 1 1 -3; -5 4 3 1 -1; 5 5 5 5 -5; 3 0 -4 1 -3")
	c := baseCodeWith(1, 10, 75)
	for judge, want := range [][]int{
		{333, 358, 65, 0, 182}, {400, 358, 357, 0, 143}, {300, 358, 325, 0, 91}, {500, 358, 260, 0, 156}, {167, 228, 195, 0, 104},
	} {
		if column, ok := impl.ColumnOf(c, l, m, judge); !slices.Equal(column, want) || !ok {
			t.Errorf("ColumnOf %d = %v, %v; want %v", judge, column, ok, want)
		}
	}
	for _, judge := range append([]int{-5, -1, 5, 6, 8, 9, 10}, wild...) {
		if judge < 0 || judge >= 5 {
			if column, ok := impl.ColumnOf(c, l, m, judge); len(column) != 0 || ok {
				t.Errorf("ColumnOf %d = %v, %v", judge, column, ok)
			}
		}
	}
	checkScores(t, c, l, m)
}

func TestLeastGrade(t *testing.T) {
	l := []impl.Item{called("X", false, 0), called("X", true, 0), called("X X", false, 0, 1), called("X", false, 3)}
	c := oneElement(100, 2, 20, 50)
	for _, w := range []struct {
		k, points, grade int
		ok               bool
	}{
		// Of the first item the scores are 50, 60, ..., 150.
		{0, -1, 0, false}, {0, 0, -5, true}, {0, 1, -5, true}, {0, 49, -5, true}, {0, 50, -5, true}, {0, 51, -4, true}, {0, 60, -4, true}, {0, 61, -3, true}, {0, 90, -1, true},
		{0, 91, 0, true}, {0, 100, 0, true}, {0, 101, 1, true}, {0, 110, 1, true}, {0, 140, 4, true}, {0, 141, 5, true}, {0, 150, 5, true}, {0, 151, 0, false}, {0, 152, 0, false}, {0, 100000, 0, false}, {0, 100001, 0, false},
		// The second one has the base 120, and the third one, which is repeated, 7 tenths of 150.
		{1, 70, -5, true}, {1, 71, -4, true}, {1, 120, 0, true}, {1, 121, 1, true}, {1, 170, 5, true}, {1, 171, 0, false},
		{2, 55, -5, true}, {2, 56, -4, true}, {2, 105, 0, true}, {2, 106, 1, true}, {2, 155, 5, true}, {2, 156, 0, false},
		// The last one has no base: only 0 points are reached.
		{3, -1, 0, false}, {3, 0, -5, true}, {3, 1, 0, false}, {3, 50, 0, false}, {3, 100000, 0, false}, {3, 100001, 0, false},
		{-1, 0, 0, false}, {4, 0, 0, false}, {-1, 100, 0, false}, {4, 100, 0, false},
	} {
		if grade, ok := impl.LeastGrade(c, l, w.k, w.points); grade != w.grade || ok != w.ok {
			t.Errorf("LeastGrade of item %d for %d = %d, %v; want %d, %v", w.k, w.points, grade, ok, w.grade, w.ok)
		}
	}
	for _, points := range wild {
		want, good := plainLeast(c, l, 0, points)
		if grade, ok := impl.LeastGrade(c, l, 0, points); grade != want || ok != good {
			t.Errorf("LeastGrade for %d = %d, %v; want %d, %v", points, grade, ok, want, good)
		}
	}
}

// Each base, with and without a bonus, repeated or not: small units have the same score for several grades.
func TestLeastGradeOfEachBase(t *testing.T) {
	for base := 1; base <= 2000; base++ {
		if base > 100 && base%7 > 0 {
			continue
		}
		c := worthCode(base)
		c.Bonus = base % 21
		checkLeast(t, c, []impl.Item{called("X", false, 0), called("X", base%2 == 0, 0), called("X Y", false, 0, 0), called("Y X", true, 0, base%4)})
	}
	for base := 1; base <= 60; base++ {
		c, l := worthCode(base), planned("X")
		for points := range 2*base + 3 {
			want, good := plainLeast(c, l, 0, points)
			if grade, ok := impl.LeastGrade(c, l, 0, points); grade != want || ok != good {
				t.Errorf("LeastGrade of %d for %d = %d, %v; want %d, %v", base, points, grade, ok, want, good)
			}
		}
	}
}

func TestLeastGradeOfManyLists(t *testing.T) {
	n := 0
	knownLists(func(c impl.Code, l []impl.Item) {
		if n++; n%10 == 0 {
			checkLeast(t, c, l)
		}
	})
}

// The greatest scores there can be: three names of 2000, the last ones with a bonus of 20 percent.
func TestGreatestScores(t *testing.T) {
	c := oneElement(2000, 3, 20, 100)
	l := slices.Repeat([]impl.Item{called("X X X", true, 0, 0, 1)}, 3)
	m := evenMarks(3, 9, 5, 1000)
	if sum, ok := impl.ItemSum(c, l, m); sum != 3*8200 || !ok {
		t.Errorf("ItemSum = %d, %v", sum, ok)
	}
	for points, want := range map[int]int{8199: 5, 8200: 5, 8000: 4, 8001: 5, 7200: 0, 6200: -5, 6201: -4} {
		if grade, ok := impl.LeastGrade(c, l, 2, points); grade != want || !ok {
			t.Errorf("LeastGrade for %d = %d, %v; want %d", points, grade, ok, want)
		}
	}
	if grade, ok := impl.LeastGrade(c, l, 2, 8201); grade != 0 || ok {
		t.Errorf("LeastGrade for 8201 = %d, %v", grade, ok)
	}
	checkScores(t, c, l, m)
}

func TestBestItem(t *testing.T) {
	l := []impl.Item{called("2T", false, 0), called("CSP", false, 0), called("2T", false, 0), called("CSP", false, 0), called("STSQ", false, 1)}
	for _, w := range []struct {
		grades string
		best   int
	}{
		{"0 0 0; 0 0 0; 0 0 0; 0 0 0; 0 0 0", 1}, {"0 0 0; 0 0 0; 0 0 0; 1 0 0; 0 0 0", 3}, {"5 5 5; -1 0 0; 0 0 0; -1 0 0; 0 0 0", 1}, {"5 5 5; -1 -1 0; 0 0 0; -1 0 0; 0 0 0", 3},
		{"5 5 5; -5 -5 -5; 5 5 5; -5 -5 -5; 5 5 5", 0}, {"4 5 5; -5 -5 -5; 5 5 5; -5 -5 -5; 5 5 5", 2}, {"5 5 5; -4 -4 -4; 5 5 5; -5 -5 -5; 5 5 5", 0}, {"5 5 5; -3 -4 -4; 5 5 5; -5 -5 -5; 5 5 5", 1},
	} {
		if k, ok := impl.BestItem(baseCode(), l, graded(w.grades)); k != w.best || !ok {
			t.Errorf("BestItem for %s = %d, %v; want %d", w.grades, k, ok, w.best)
		}
		checkScores(t, baseCode(), l, graded(w.grades))
	}
	// All are equal, and all are 0.
	for n := 1; n <= 14; n++ {
		for _, it := range []impl.Item{called("X", false, 3), called("X X", true, 3, 3)} {
			if k, ok := impl.BestItem(worthCode(9), slices.Repeat([]impl.Item{it}, n), mixedMarks(n, n, 5)); k != 0 || !ok {
				t.Errorf("BestItem of %d items without a base = %d, %v", n, k, ok)
			}
		}
		late := append(slices.Repeat([]impl.Item{called("X", false, 3)}, n-1), called("X", false, 0))
		if k, ok := impl.BestItem(worthCode(9), late, evenMarks(n, 5, -5, 0)); k != n-1 || !ok {
			t.Errorf("BestItem of %d items, the last one with a base = %d, %v", n, k, ok)
		}
	}
}

// Components do not move the scores of items.
func TestScoresDependOnGradesAlone(t *testing.T) {
	l := knownItems(3, 9, baseCode())
	m := mixedMarks(3, 9, 5)
	before := fmt.Sprint(scoreAnswers(baseCode(), l, m))
	for mark := 0; mark <= 1000; mark += 25 {
		other := impl.Marks{Grades: m.Grades, Components: evenMarks(0, 5, 0, mark).Components}
		if after := fmt.Sprint(scoreAnswers(baseCode(), l, other)); after != before {
			t.Errorf("with components of %d: %s; want %s", mark, after, before)
		}
	}
}

func TestPromise11ScoresAreBasesAndGradePoints(t *testing.T) {
	judgedLists(func(c impl.Code, l []impl.Item, m impl.Marks) {
		checkScores(t, c, l, m)
		scores, ok := impl.ItemScores(c, l, m)
		bases, good := impl.BaseValues(c, l)
		if len(scores) != len(l) || !ok || !good {
			t.Fatalf("ItemScores of %s = %v, %v; BaseValues = %v, %v", plainTexts(l), scores, ok, bases, good)
		}
		sum := 0
		for k, it := range l {
			unit, ok := impl.UnitOf(c, it)
			points, good := impl.GradePoints(c, l, m, k)
			score, fine := impl.ItemScore(c, l, m, k)
			trimmed, count, _ := impl.TrimmedSum(m.Grades[k])
			// The grade points are in (exact - 1/2, exact + 1/2], in parts of 10 times the count.
			parts := 10 * count
			near := 2*parts*points > 2*trimmed*unit-parts && 2*parts*points <= 2*trimmed*unit+parts
			if bases[k] == 0 && points != 0 || bases[k] != 0 && !near || score != bases[k]+points || scores[k] != score || !ok || !good || !fine {
				t.Errorf("%s with %v: the base %d, the unit %d and the grade points %d make %d", plainText(it), m.Grades[k], bases[k], unit, points, score)
			}
			sum += score
		}
		if n, ok := impl.ItemSum(c, l, m); n != sum || !ok {
			t.Errorf("ItemSum of %s = %d, %v; want %d", plainTexts(l), n, ok, sum)
		}
	})
}

func TestPromise11ScoresLieBetweenColumns(t *testing.T) {
	within := 0
	judgedLists(func(c impl.Code, l []impl.Item, m impl.Marks) {
		scores, ok := impl.ItemScores(c, l, m)
		var columns [][]int
		for judge := range m.Components[0] {
			column, good := impl.ColumnOf(c, l, m, judge)
			if len(column) != len(l) || !ok || !good {
				t.Fatalf("ColumnOf %d of %s = %v, %v", judge, plainTexts(l), column, good)
			}
			columns = append(columns, column)
		}
		for k, n := range scores {
			least, greatest := columns[0][k], columns[0][k]
			for _, column := range columns {
				least, greatest = min(least, column[k]), max(greatest, column[k])
			}
			if n < least || n > greatest {
				t.Errorf("%s with %v has the score %d, and the columns have %d to %d", plainText(l[k]), m.Grades[k], n, least, greatest)
			}
			if n > least && n < greatest {
				within++
			}
		}
		// If all judges agree, each column has the scores.
		even := impl.Marks{Components: m.Components}
		for _, row := range m.Grades {
			even.Grades = append(even.Grades, repeated(row[0], len(row)))
		}
		if got, ok := impl.ItemScores(c, l, even); !slices.Equal(got, columns[0]) || !ok {
			t.Errorf("ItemScores of %s with %v = %v, %v; want %v", plainTexts(l), even.Grades, got, ok, columns[0])
		}
	})
	if within < 100 {
		t.Errorf("only %d scores are between the columns", within)
	}
}

// The least grade suffices if three judges give it, and one less does not.
func TestPromise11LeastGradesJustSuffice(t *testing.T) {
	found := map[int]int{}
	knownLists(func(c impl.Code, l []impl.Item) {
		scoreWith := func(k, grade int) int {
			m := evenMarks(len(l), 3, 0, 500)
			m.Grades[k] = repeated(grade, 3)
			n, ok := impl.ItemScore(c, l, m, k)
			if !ok {
				t.Errorf("ItemScore %d of %s fails", k, plainTexts(l))
			}
			return n
		}
		for k := range l {
			base, _ := impl.ItemBase(c, l, k)
			for _, points := range []int{0, 1, base / 2, base - 1, base, base + 1, base + 30, 3 * base / 2, 2 * base} {
				grade, ok := impl.LeastGrade(c, l, k, max(points, 0))
				if ok && (scoreWith(k, grade) < points || grade > -5 && scoreWith(k, grade-1) >= points) || !ok && scoreWith(k, 5) >= points {
					t.Errorf("LeastGrade %d of %s for %d = %d, %v", k, plainTexts(l), points, grade, ok)
				}
				found[grade]++
			}
		}
	})
	if len(found) < 11 {
		t.Errorf("only these grades are found: %v", found)
	}
}

func TestPromise33ScoresWithBadCodes(t *testing.T) {
	for what, c := range badCodes() {
		before := copiedCode(c)
		for _, l := range listsForBadCode(firstElement(c)) {
			for _, m := range []impl.Marks{{}, mixedMarks(1, len(l), 5), mixedMarks(1, 1, 3)} {
				checkNotJudged(t, what, c, l, m, false)
			}
			checkNoLeast(t, what, c, l)
			checkNothing(t, what, gradeAnswers(c, l))
		}
		if !reflect.DeepEqual(copiedCode(c), before) {
			t.Errorf("%s: the code is changed", what)
		}
	}
}

func TestPromise33ScoresOfBadLists(t *testing.T) {
	codes := []impl.Code{wideCode(), namedCode("2T", "3A", "4S", "A", "EX"), {}}
	for what, l := range badListsWithKnown() {
		before := copiedItems(l)
		for i, c := range codes {
			for _, m := range []impl.Marks{{}, mixedMarks(1, min(len(l), 14), 5), mixedMarks(1, 1, 3)} {
				checkNotJudged(t, fmt.Sprint(what, ", code ", i), c, l, m, false)
			}
			checkNoLeast(t, fmt.Sprint(what, ", code ", i), c, l)
		}
		if !sameItems(l, before) {
			t.Errorf("%s: the list is changed", what)
		}
	}
}

func TestPromise33ScoresWithBadMarks(t *testing.T) {
	for what, m := range badMarks() {
		before := copiedMarks(m)
		for _, l := range [][]impl.Item{nil, planned("2A"), planned("2A", "2T+2A"), planned("2A", "2T+2A", "CSP"), knownItems(9, 14, baseCode()), knownItems(3, min(len(m.Grades), 14), baseCode())} {
			checkNotJudged(t, what, baseCode(), l, m, true)
			checkNotJudged(t, what+", and no code", impl.Code{}, l, m, false)
		}
		checkNotJudged(t, what+", and no list", baseCode(), slices.Repeat(planned("2A"), 15), m, false)
		if !sameMarks(m, before) {
			t.Errorf("%s: the marks are changed", what)
		}
	}
}

func TestPromise33ScoresAcceptAllNumbers(t *testing.T) {
	l := []impl.Item{called("2A", true, 0), called("2T", false, 1), called("2A 3A", false, 0, 3)}
	m := mixedMarks(4, 3, 5)
	numbers := append([]int{-6, -5, 3, 4, 5, 6, 9, 14, 99999, 100000, 100001}, wild...)
	for _, a := range numbers {
		for _, b := range numbers {
			calm(t, "calls with all numbers", func() {
				want, good := plainLeast(baseCode(), l, a, b)
				if grade, ok := impl.LeastGrade(baseCode(), l, a, b); grade != want || ok != good {
					t.Errorf("LeastGrade %d for %d = %d, %v; want %d, %v", a, b, grade, ok, want, good)
				}
				if column, ok := impl.ColumnOf(baseCode(), l, m, a); ok != (a >= 0 && a < 5) || !ok && len(column) != 0 {
					t.Errorf("ColumnOf %d = %v, %v", a, column, ok)
				}
				c := baseCodeWith(a, b, a)
				items := []impl.Item{called("2A", true, b), called("2T", false, a)}
				other := changedMarks(mixedMarks(4, 2, 5), func(m *impl.Marks) { m.Grades[1][2], m.Components[1][2] = a, b })
				for _, code := range []impl.Code{c, oneElement(a, 1, 0, 50), oneElement(b, 1, 20, 100), baseCode()} {
					for _, list := range [][]impl.Item{items, l, {called("X", true, b)}, {called("X", false, 0)}} {
						scoreAnswers(code, list, other)
						gradeAnswers(code, list)
					}
				}
			})
		}
	}
}

func TestPromise33ScoresAcceptAllStrings(t *testing.T) {
	for _, s := range []string{"", "\x00", "\xff", "\u20ac", "2A ", "2a", "ABCDEF"} {
		it := impl.Item{Names: []string{"2A", s}, Marks: []int{0, 0}}
		what := fmt.Sprintf("the name %q", s)
		checkNotJudged(t, what, baseCode(), []impl.Item{it}, mixedMarks(1, 1, 3), false)
		checkNotJudged(t, what+" in the code", namedCode(s), planned("2A"), mixedMarks(1, 1, 3), false)
		checkNothing(t, what, gradeAnswers(baseCode(), []impl.Item{it}))
		checkNothing(t, what, gradeAnswers(namedCode(s), []impl.Item{it}))
	}
}

func TestPromise33ScoresLeaveArgumentsAsTheyAre(t *testing.T) {
	judgedLists(func(code impl.Code, items []impl.Item, marks impl.Marks) {
		c, sameCode := sparedCode(code)
		l, sameList := sparedItems(items)
		m := sparedMarks(marks)
		before := wholeText(reflect.ValueOf(m))
		impl.AreJudged(c, l, m)
		answers, further := scoreAnswers(c, l, m), scoreAnswers(c, l, m)
		grades := gradeAnswers(c, l)
		if !sameCode() || !sameList() || wholeText(reflect.ValueOf(m)) != before {
			t.Errorf("%s or %v is changed, or the code", plainTexts(items), marks)
		}
		for what, a := range answers {
			if x, ok := a.value.([]int); ok && len(x) > 0 {
				checkApart(t, what, x, c, l, m, further[what].value)
			}
		}
		// What stands behind the lengths is not read.
		plain, fresh := scoreAnswers(code, items, marks), gradeAnswers(code, items)
		if fmt.Sprint(plain) != fmt.Sprint(answers) || fmt.Sprint(fresh) != fmt.Sprint(grades) {
			t.Errorf("%s, %v: %v, %v; with spare capacity %v, %v", plainTexts(items), marks, plain, fresh, answers, grades)
		}
	})
}

// A result stays as it is when the arguments are changed afterwards, and they when a result is.
func TestPromise33ScoresKeepNoArguments(t *testing.T) {
	judgedLists(func(code impl.Code, items []impl.Item, marks impl.Marks) {
		c, l, m := copiedCode(code), copiedItems(items), copiedMarks(marks)
		answers := scoreAnswers(c, l, m)
		before := fmt.Sprint(answers)
		for _, a := range scoreAnswers(c, l, m) {
			if x, ok := a.value.([]int); ok {
				spoilNumbers(x)
			}
		}
		if !reflect.DeepEqual(c, copiedCode(code)) || !sameItems(l, items) || !sameMarks(m, marks) || fmt.Sprint(answers) != before {
			t.Errorf("%s or %v changes with a result", plainTexts(items), marks)
		}
		spoil(c)
		spoilItems(l)
		for _, row := range slices.Concat(m.Grades, m.Components) {
			spoilNumbers(row)
		}
		if fmt.Sprint(answers) != before {
			t.Errorf("a result changes with %s or %v", plainTexts(items), marks)
		}
	})
}

// What stands behind the length of a list, of its names or of rows is not there.
func TestPromise33ScoresReadNothingBehindLists(t *testing.T) {
	l, m := knownItems(5, 14, baseCode()), mixedMarks(5, 14, 9)
	for n := range 15 {
		shorter := impl.Marks{Grades: m.Grades[:n], Components: m.Components}
		checkScores(t, baseCode(), l[:n], shorter)
		checkLeast(t, baseCode(), l[:n])
		if n < 14 {
			checkNotJudged(t, "an item behind", baseCode(), l[:n], m, true)
			checkNotJudged(t, "a row behind", baseCode(), l, shorter, true)
		}
	}
	for judges := 3; judges <= 9; judges++ {
		var fewer impl.Marks
		for _, row := range m.Grades {
			fewer.Grades = append(fewer.Grades, row[:judges])
		}
		for _, row := range m.Components {
			fewer.Components = append(fewer.Components, row[:judges])
		}
		checkScores(t, baseCode(), l, fewer)
	}
}
