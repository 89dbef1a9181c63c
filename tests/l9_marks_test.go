package tests

import (
	"fmt"
	"reflect"
	"regexp"
	"slices"
	"strconv"
	"strings"
	"testing"

	"loop.example/g00912/impl"
)

// rowsOf are rows of numbers, with a ; between them.
func rowsOf(text string) [][]int {
	var rows [][]int
	for _, line := range strings.Split(text, ";") {
		if words := strings.Fields(line); len(words) > 0 {
			rows = append(rows, intsOf(words))
		}
	}
	return rows
}

func intsOf(words []string) []int {
	l := make([]int, len(words))
	for i, word := range words {
		l[i], _ = strconv.Atoi(word)
	}
	return l
}

func marksOf(grades, components string) impl.Marks {
	return impl.Marks{Grades: rowsOf(grades), Components: rowsOf(components)}
}

// someMarks are those of four judges for three items; no two rows and no two judges are alike.
func someMarks() impl.Marks {
	return marksOf("0 2 -1 5; -5 1 1 3; 4 -2 -3 -4", "500 525 550 0; 75 0 25 1000; 1000 775 50 675")
}

// evenMarks are marks in which all grades are equal and all marks of components are.
func evenMarks(items, judges, grade, mark int) impl.Marks {
	var m impl.Marks
	for range items {
		m.Grades = append(m.Grades, repeated(grade, judges))
	}
	for range 3 {
		m.Components = append(m.Components, repeated(mark, judges))
	}
	return m
}

// mixedMarks are marks that differ from one seed to the next one.
func mixedMarks(seed, items, judges int) impl.Marks {
	next := mixing(seed)
	m := evenMarks(items, judges, 0, 0)
	for _, row := range m.Grades {
		for k := range row {
			row[k] = next(11) - 5
		}
	}
	for _, row := range m.Components {
		for k := range row {
			row[k] = 25 * next(41)
		}
	}
	return m
}

// manyMarks calls a function with marks of all numbers of items and judges, some of which are all equal.
func manyMarks(do func(seed int, m impl.Marks)) {
	do(1, someMarks())
	seed := 2
	for items := range 15 {
		for judges := 3; judges <= 9; judges++ {
			do(seed, mixedMarks(seed, items, judges))
			do(seed+1, evenMarks(items, judges, (items+judges)%11-5, 25*((7*items+judges)%41)))
			seed += 2
		}
	}
}

func copiedRows(rows [][]int) [][]int {
	var copied [][]int
	for _, row := range rows {
		copied = append(copied, slices.Clone(row))
	}
	return copied
}

func copiedMarks(m impl.Marks) impl.Marks {
	return impl.Marks{Grades: copiedRows(m.Grades), Components: copiedRows(m.Components)}
}

func changedMarks(m impl.Marks, change func(m *impl.Marks)) impl.Marks {
	m = copiedMarks(m)
	change(&m)
	return m
}

func sameMarks(a, b impl.Marks) bool {
	return sameRows(a.Grades, b.Grades) && sameRows(a.Components, b.Components)
}

func isNoMarks(m impl.Marks) bool { return sameMarks(m, impl.Marks{}) }

// plainMarks tells whether marks are valid.
func plainMarks(m impl.Marks) bool {
	if len(m.Grades) > 14 || len(m.Components) != 3 {
		return false
	}
	judges := len(m.Components[0])
	for i, row := range append(slices.Clone(m.Grades), m.Components...) {
		if len(row) != judges || judges < 3 || judges > 9 {
			return false
		}
		for _, n := range row {
			if i < len(m.Grades) && (n < -5 || n > 5) || i >= len(m.Grades) && (n < 0 || n > 1000 || n%25 != 0) {
				return false
			}
		}
	}
	return true
}

// judgesOfMarks are the grades and the marks of each judge, those of the items first.
func judgesOfMarks(m impl.Marks) [][]int {
	judges := make([][]int, len(m.Components[0]))
	for _, row := range append(slices.Clone(m.Grades), m.Components...) {
		for judge, n := range row {
			judges[judge] = append(judges[judge], n)
		}
	}
	return judges
}

// marksOfJudges are the marks with given judges.
func marksOfJudges(items int, judges [][]int) impl.Marks {
	m := evenMarks(items, len(judges), 0, 0)
	for judge, column := range judges {
		for i, n := range column {
			if i < items {
				m.Grades[i][judge] = n
			} else {
				m.Components[i-items][judge] = n
			}
		}
	}
	return m
}

func plainMarksText(m impl.Marks) string {
	text := ""
	for _, row := range m.Grades {
		text += "g " + strings.Trim(fmt.Sprint(row), "[]") + "\n"
	}
	for _, row := range m.Components {
		text += "c " + strings.Trim(fmt.Sprint(row), "[]") + "\n"
	}
	return text
}

// checkResult checks that a call has returned marks, or has failed if these are not valid.
func checkResult(t *testing.T, what string, m impl.Marks, got impl.Marks, ok bool, want impl.Marks) {
	t.Helper()
	good := plainMarks(want)
	if !good {
		want = impl.Marks{}
	}
	if !sameMarks(got, want) || ok != good {
		t.Errorf("%v: %s = %v, %v; want %v", m, what, got, ok, want)
	}
}

// checkMarks checks all that is told of valid marks against what the plain functions say.
func checkMarks(t *testing.T, m impl.Marks) {
	t.Helper()
	items, judges := len(m.Grades), judgesOfMarks(m)
	for _, n := range []int{-items, -1, items - 1, items, items + 1, 14, 15} {
		if is := impl.AreMarks(m, n); is != (n == items) {
			t.Errorf("%v: AreMarks with %d items = %v", m, n, is)
		}
	}
	if n, ok := impl.JudgesOf(m); n != len(judges) || !ok {
		t.Errorf("%v: JudgesOf = %d, %v", m, n, ok)
	}
	for judge, column := range judges {
		if g, c, ok := impl.JudgeMarks(m, judge); !slices.Equal(g, column[:items]) || !slices.Equal(c, column[items:]) || !ok {
			t.Errorf("%v: JudgeMarks of %d = %v, %v, %v", m, judge, g, c, ok)
		}
	}
	counts := make([]int, 11)
	for _, row := range m.Grades {
		for _, grade := range row {
			counts[grade+5]++
		}
	}
	if l, ok := impl.CountGrades(m); !slices.Equal(l, counts) || !ok {
		t.Errorf("%v: CountGrades = %v, %v; want %v", m, l, ok, counts)
	}
	text := plainMarksText(m)
	if s, ok := impl.MarksText(m); s != text || !ok {
		t.Errorf("%v: MarksText = %q, %v; want %q", m, s, ok, text)
	}
	if x, ok := impl.ParseMarks(text); !sameMarks(x, m) || !ok {
		t.Errorf("ParseMarks of %q = %v, %v", text, x, ok)
	}
	checkJudges(t, m, judges)
}

// checkJudges checks the calls that drop, add and swap judges of valid marks.
func checkJudges(t *testing.T, m impl.Marks, judges [][]int) {
	t.Helper()
	items := len(m.Grades)
	for a := range judges {
		x, ok := impl.DropJudge(m, a)
		checkResult(t, fmt.Sprint("DropJudge of ", a), m, x, ok, marksOfJudges(items, slices.Delete(slices.Clone(judges), a, a+1)))
		column := judges[a]
		x, ok = impl.AddJudge(m, column[:items], column[items:])
		checkResult(t, fmt.Sprint("AddJudge like ", a), m, x, ok, marksOfJudges(items, slices.Concat(judges, [][]int{column})))
		for b := range judges {
			swapped := slices.Clone(judges)
			swapped[a], swapped[b] = judges[b], judges[a]
			x, ok := impl.SwapJudges(m, a, b)
			checkResult(t, fmt.Sprint("SwapJudges of ", a, " and ", b), m, x, ok, marksOfJudges(items, swapped))
		}
	}
}

// checkSet checks SetGrade, or SetComponent if the item is one behind all, for one judge and one number.
func checkSet(t *testing.T, m impl.Marks, k, judge, n int) {
	t.Helper()
	items := len(m.Grades)
	judges := judgesOfMarks(copiedMarks(m))
	judges[judge][k] = n
	want := marksOfJudges(items, judges)
	if k < items {
		x, ok := impl.SetGrade(m, k, judge, n)
		checkResult(t, fmt.Sprint("SetGrade for ", k, " by ", judge, " to ", n), m, x, ok, want)
		return
	}
	x, ok := impl.SetComponent(m, k-items, judge, n)
	checkResult(t, fmt.Sprint("SetComponent ", k-items, " by ", judge, " to ", n), m, x, ok, want)
}

// columns are the two lists that JudgeMarks returns.
type columns struct {
	grades     []int
	components []int
}

// marksAnswers are those of all functions with marks but AreMarks, for some judges, items and components.
func marksAnswers(m impl.Marks) map[string]answer {
	answers := map[string]answer{}
	add := func(what string, value any, ok bool) { answers[what] = answer{value, ok} }
	judges, ok := impl.JudgesOf(m)
	add("JudgesOf", judges, ok)
	counts, ok := impl.CountGrades(m)
	add("CountGrades", counts, ok)
	text, ok := impl.MarksText(m)
	add("MarksText", text, ok)
	column := repeated(1, len(m.Grades))
	longer, ok := impl.AddJudge(m, column, []int{25, 50, 75})
	add("AddJudge", longer, ok)
	for judge := range 9 {
		of := fmt.Sprint(" of ", judge)
		grades, components, ok := impl.JudgeMarks(m, judge)
		add("JudgeMarks"+of, columns{grades, components}, ok)
		shorter, ok := impl.DropJudge(m, judge)
		add("DropJudge"+of, shorter, ok)
		swapped, ok := impl.SwapJudges(m, judge, 0)
		add("SwapJudges"+of, swapped, ok)
		swapped, ok = impl.SwapJudges(m, 2, judge)
		add("SwapJudges with 2"+of, swapped, ok)
		changed, ok := impl.SetGrade(m, judge, judge, -1)
		add("SetGrade"+of, changed, ok)
		changed, ok = impl.SetComponent(m, judge%3, judge, 275)
		add("SetComponent"+of, changed, ok)
	}
	return answers
}

// checkNoMarks checks that all functions fail for marks that are not valid.
func checkNoMarks(t *testing.T, what string, m impl.Marks) {
	t.Helper()
	calm(t, what, func() {
		for _, items := range []int{-1, 0, 1, 2, 3, 14, 15, len(m.Grades)} {
			if impl.AreMarks(m, items) {
				t.Errorf("%s: valid with %d items", what, items)
			}
		}
		for name, a := range marksAnswers(m) {
			if a.ok || !isNothing(reflect.ValueOf(a.value)) {
				t.Errorf("%s: %s = %.300s, %v", what, name, fmt.Sprint(a.value), a.ok)
			}
		}
	})
}

// goodMarks are valid marks at the bounds.
func goodMarks() map[string]impl.Marks {
	good := map[string]impl.Marks{
		"some":                 someMarks(),
		"no items":             marksOf("", "500 525 550; 0 0 0; 1000 1000 1000"),
		"no items, not nil":    {Grades: [][]int{}, Components: rowsOf("500 525 550; 0 0 0; 1000 1000 1000")},
		"no items, 9 judges":   mixedMarks(3, 0, 9),
		"14 items":             mixedMarks(3, 14, 5),
		"14 items, 3 judges":   mixedMarks(3, 14, 3),
		"14 items, 9 judges":   mixedMarks(3, 14, 9),
		"3 judges":             mixedMarks(3, 2, 3),
		"9 judges":             mixedMarks(3, 2, 9),
		"the longest text":     evenMarks(14, 9, -5, 1000),
		"the shortest text":    evenMarks(0, 3, 0, 0),
		"grades of -5 and 5":   marksOf("-5 5 -5; 5 -5 5", "0 0 0; 0 0 0; 0 0 0"),
		"components of 0":      evenMarks(1, 4, 1, 0),
		"components of 1000":   evenMarks(1, 4, 1, 1000),
		"components 25 to 975": marksOf("1 2 3", "25 50 75; 925 950 975; 100 200 125"),
	}
	for grade := -5; grade <= 5; grade++ {
		good[fmt.Sprint("all grades ", grade)] = evenMarks(3, 5, grade, 500)
	}
	for mark := 0; mark <= 1000; mark += 25 {
		good[fmt.Sprint("all components ", mark)] = evenMarks(1, 3, 0, mark)
	}
	return good
}

// badMarks are marks that are not valid, each for one reason.
func badMarks() map[string]impl.Marks {
	bad := map[string]impl.Marks{
		"zero":                       {},
		"no components":              {Grades: rowsOf("0 2 -1")},
		"no components, no items":    {Grades: [][]int{}, Components: [][]int{}},
		"15 items":                   mixedMarks(3, 15, 3),
		"15 items, 9 judges":         mixedMarks(3, 15, 9),
		"10000 items":                evenMarks(10000, 3, 0, 0),
		"no judges":                  evenMarks(2, 0, 0, 0),
		"no judges, no items":        evenMarks(0, 0, 0, 0),
		"1 judge":                    evenMarks(2, 1, 0, 0),
		"2 judges":                   mixedMarks(3, 2, 2),
		"2 judges, no items":         mixedMarks(3, 0, 2),
		"10 judges":                  mixedMarks(3, 2, 10),
		"10 judges, no items":        mixedMarks(3, 0, 10),
		"10000 judges":               evenMarks(1, 10000, 0, 0),
		"nil components":             {Grades: rowsOf("0 2 -1"), Components: [][]int{nil, nil, nil}},
		"nil everywhere":             {Grades: [][]int{nil}, Components: [][]int{nil, nil, nil}},
		"grades have other judges":   {Grades: mixedMarks(3, 2, 4).Grades, Components: mixedMarks(3, 2, 3).Components},
		"grades have fewer judges":   {Grades: mixedMarks(3, 2, 3).Grades, Components: mixedMarks(3, 2, 4).Components},
		"grades for components":      {Grades: rowsOf("0 2 -1"), Components: rowsOf("0 2 -1; 1 1 1; 2 2 2")},
		"components for grades":      {Grades: rowsOf("500 525 550"), Components: rowsOf("500 525 550; 0 0 0; 0 0 0")},
		"grades and components swap": {Grades: someMarks().Components, Components: someMarks().Grades},
	}
	addBadRows(bad)
	addBadNumbers(bad)
	return bad
}

// addBadRows adds marks with a row more or less, and with a row that has more judges than the others, fewer, or none.
func addBadRows(bad map[string]impl.Marks) {
	change := func(what string, change func(m *impl.Marks)) { bad[what] = changedMarks(someMarks(), change) }
	change("1 component", func(m *impl.Marks) { m.Components = m.Components[:1] })
	change("2 components", func(m *impl.Marks) { m.Components = m.Components[:2] })
	change("4 components", func(m *impl.Marks) { m.Components = append(m.Components, repeated(0, 4)) })
	change("a nil component behind", func(m *impl.Marks) { m.Components = append(m.Components, nil) })
	change("a nil item behind", func(m *impl.Marks) { m.Grades = append(m.Grades, nil) })
	for i := range 3 {
		for what, rows := range map[string]func(m *impl.Marks) [][]int{
			"item":      func(m *impl.Marks) [][]int { return m.Grades },
			"component": func(m *impl.Marks) [][]int { return m.Components },
		} {
			at := fmt.Sprint(" ", what, " ", i)
			change("one judge less,"+at, func(m *impl.Marks) { rows(m)[i] = rows(m)[i][:3] })
			change("one judge more,"+at, func(m *impl.Marks) { rows(m)[i] = append(rows(m)[i], 0) })
			change("a nil row,"+at, func(m *impl.Marks) { rows(m)[i] = nil })
			change("an empty row,"+at, func(m *impl.Marks) { rows(m)[i] = []int{} })
		}
	}
}

// addBadNumbers adds marks with one wrong number, at each place.
func addBadNumbers(bad map[string]impl.Marks) {
	for i := range 3 {
		for judge := range 4 {
			for _, n := range append([]int{-6, 6, 25, -25, 1000}, wild...) {
				if n < -5 || n > 5 {
					bad[fmt.Sprint("the grade ", n, " at ", i, " ", judge)] = changedMarks(someMarks(), func(m *impl.Marks) { m.Grades[i][judge] = n })
				}
			}
			for _, n := range append([]int{-1000, -50, -25, -10, 5, 10, 24, 26, 30, 990, 999, 1001, 1025, 2000, 1000000}, wild...) {
				if n < 0 || n > 1000 || n%25 != 0 {
					bad[fmt.Sprint("the component ", n, " at ", i, " ", judge)] = changedMarks(someMarks(), func(m *impl.Marks) { m.Components[i][judge] = n })
				}
			}
		}
	}
}

func TestMarksConstants(t *testing.T) {
	if impl.MaxJudges != 9 || impl.Components != 3 {
		t.Error("constants", impl.MaxJudges, impl.Components)
	}
}

func TestAreMarks(t *testing.T) {
	for what, m := range goodMarks() {
		if !plainMarks(m) {
			t.Errorf("%s: the test is wrong", what)
		}
		checkMarks(t, m)
	}
	for what, m := range badMarks() {
		if plainMarks(m) {
			t.Errorf("%s: the test is wrong", what)
		}
		checkNoMarks(t, what, m)
	}
}

// A number at its bounds and one beyond them, at each place.
func TestBoundsOfMarks(t *testing.T) {
	for _, w := range []struct {
		grade, mark int
		is          bool
	}{
		{-6, 0, false}, {-5, 0, true}, {-4, 0, true}, {0, 0, true}, {4, 0, true}, {5, 0, true}, {6, 0, false},
		{0, -25, false}, {0, -1, false}, {0, 1, false}, {0, 10, false}, {0, 24, false}, {0, 25, true}, {0, 26, false}, {0, 50, true},
		{0, 975, true}, {0, 990, false}, {0, 999, false}, {0, 1000, true}, {0, 1001, false}, {0, 1025, false},
	} {
		for i := range 3 {
			for judge := range 4 {
				m := someMarks()
				m.Grades[i][judge], m.Components[2-i][judge] = w.grade, w.mark
				if is := impl.AreMarks(m, 3); is != w.is {
					t.Errorf("with the grade %d and the component %d AreMarks = %v", w.grade, w.mark, is)
				}
			}
		}
	}
	for items := range 20 {
		for judges := range 12 {
			m, is := mixedMarks(5, items, judges), items <= 14 && judges >= 3 && judges <= 9
			if impl.AreMarks(m, items) != is {
				t.Errorf("AreMarks of %d items and %d judges = %v", items, judges, !is)
			}
		}
	}
}

func TestAreMarksWithNumbersOfItems(t *testing.T) {
	for items := range 15 {
		m := mixedMarks(items, items, 3+items%7)
		for _, n := range append([]int{-15, -14, -items, items - 1, items + 1, 14, 15, 16}, wild...) {
			if is := impl.AreMarks(m, n); is != (n == items) {
				t.Errorf("%v: AreMarks with %d items = %v", m, n, is)
			}
		}
		if !impl.AreMarks(m, items) {
			t.Errorf("%v: AreMarks with %d items = false", m, items)
		}
	}
}

func TestJudgesOf(t *testing.T) {
	for judges := 3; judges <= 9; judges++ {
		for _, items := range []int{0, 1, 14} {
			if n, ok := impl.JudgesOf(mixedMarks(7, items, judges)); n != judges || !ok {
				t.Errorf("JudgesOf = %d, %v; want %d", n, ok, judges)
			}
		}
	}
}

func TestJudgeMarks(t *testing.T) {
	for judge, w := range []struct{ grades, components []int }{
		{[]int{0, -5, 4}, []int{500, 75, 1000}}, {[]int{2, 1, -2}, []int{525, 0, 775}}, {[]int{-1, 1, -3}, []int{550, 25, 50}}, {[]int{5, 3, -4}, []int{0, 1000, 675}},
	} {
		if g, c, ok := impl.JudgeMarks(someMarks(), judge); !slices.Equal(g, w.grades) || !slices.Equal(c, w.components) || !ok {
			t.Errorf("JudgeMarks of %d = %v, %v, %v", judge, g, c, ok)
		}
	}
	m := marksOf("", "500 525 550; 0 25 50; 1000 975 950")
	for judge, want := range [][]int{{500, 0, 1000}, {525, 25, 975}, {550, 50, 950}} {
		if g, c, ok := impl.JudgeMarks(m, judge); len(g) != 0 || !slices.Equal(c, want) || !ok {
			t.Errorf("without items JudgeMarks of %d = %v, %v, %v", judge, g, c, ok)
		}
	}
}

func TestJudgesThatAreNotThere(t *testing.T) {
	for judges := 3; judges <= 9; judges++ {
		for _, m := range []impl.Marks{mixedMarks(judges, 9, judges), mixedMarks(judges, 0, judges)} {
			items := len(m.Grades)
			for _, judge := range append([]int{-judges, -1, judges, judges + 1, 9, 10}, wild...) {
				there := 0 <= judge && judge < judges
				calm(t, fmt.Sprint("calls with judge ", judge, " of ", judges), func() {
					if g, c, ok := impl.JudgeMarks(m, judge); ok != there || len(g) > 0 != (there && items > 0) || len(c) > 0 != there {
						t.Errorf("JudgeMarks of %d of %d = %v, %v, %v", judge, judges, g, c, ok)
					}
					if x, ok := impl.SetComponent(m, 1, judge, 500); ok != there || isNoMarks(x) == there {
						t.Errorf("SetComponent of %d of %d = %v, %v", judge, judges, x, ok)
					}
					if x, ok := impl.SetGrade(m, 0, judge, 1); ok != (there && items > 0) || isNoMarks(x) == ok {
						t.Errorf("SetGrade of %d of %d = %v, %v", judge, judges, x, ok)
					}
					if x, ok := impl.DropJudge(m, judge); ok != (there && judges > 3) || isNoMarks(x) == ok {
						t.Errorf("DropJudge of %d of %d = %v, %v", judge, judges, x, ok)
					}
					for _, other := range []int{0, judges - 1} {
						if x, ok := impl.SwapJudges(m, judge, other); ok != there || isNoMarks(x) == there {
							t.Errorf("SwapJudges of %d and %d of %d = %v, %v", judge, other, judges, x, ok)
						}
						if x, ok := impl.SwapJudges(m, other, judge); ok != there || isNoMarks(x) == there {
							t.Errorf("SwapJudges of %d and %d of %d = %v, %v", other, judge, judges, x, ok)
						}
					}
					if x, ok := impl.SwapJudges(m, judge, judge); ok != there || isNoMarks(x) == there {
						t.Errorf("SwapJudges of %d with itself of %d = %v, %v", judge, judges, x, ok)
					}
				})
			}
		}
	}
}

func TestItemsAndComponentsThatAreNotThere(t *testing.T) {
	for _, items := range []int{0, 1, 2, 3, 4, 13, 14} {
		m := mixedMarks(items, items, 5)
		for _, k := range append([]int{-items, -1, items, items + 1, 3, 14, 15}, wild...) {
			calm(t, fmt.Sprint("calls with item or component ", k), func() {
				if x, ok := impl.SetGrade(m, k, 0, 1); ok != (0 <= k && k < items) || isNoMarks(x) == ok {
					t.Errorf("SetGrade for item %d of %d = %v, %v", k, items, x, ok)
				}
				if x, ok := impl.SetComponent(m, k, 0, 25); ok != (0 <= k && k < 3) || isNoMarks(x) == ok {
					t.Errorf("SetComponent %d = %v, %v", k, x, ok)
				}
			})
		}
	}
}

func TestSetGrade(t *testing.T) {
	for _, w := range []struct {
		item, judge, grade int
		grades             string
	}{
		{0, 0, 0, "0 2 -1 5; -5 1 1 3; 4 -2 -3 -4"}, {0, 0, 5, "5 2 -1 5; -5 1 1 3; 4 -2 -3 -4"}, {0, 3, -5, "0 2 -1 -5; -5 1 1 3; 4 -2 -3 -4"},
		{1, 2, 4, "0 2 -1 5; -5 1 4 3; 4 -2 -3 -4"}, {2, 0, -4, "0 2 -1 5; -5 1 1 3; -4 -2 -3 -4"}, {2, 3, -4, "0 2 -1 5; -5 1 1 3; 4 -2 -3 -4"},
	} {
		want := impl.Marks{Grades: rowsOf(w.grades), Components: someMarks().Components}
		if x, ok := impl.SetGrade(someMarks(), w.item, w.judge, w.grade); !sameMarks(x, want) || !ok {
			t.Errorf("SetGrade for %d by %d to %d = %v, %v", w.item, w.judge, w.grade, x, ok)
		}
	}
	for i := range 3 {
		for judge := range 4 {
			for _, n := range append([]int{-7, -6, -5, -4, -3, 3, 4, 5, 6, 7, 25}, wild...) {
				checkSet(t, someMarks(), i, judge, n)
			}
		}
	}
}

func TestSetComponent(t *testing.T) {
	for _, w := range []struct {
		component, judge, mark int
		components             string
	}{
		{0, 0, 500, "500 525 550 0; 75 0 25 1000; 1000 775 50 675"}, {0, 0, 0, "0 525 550 0; 75 0 25 1000; 1000 775 50 675"}, {0, 3, 1000, "500 525 550 1000; 75 0 25 1000; 1000 775 50 675"},
		{1, 1, 975, "500 525 550 0; 75 975 25 1000; 1000 775 50 675"}, {2, 0, 25, "500 525 550 0; 75 0 25 1000; 25 775 50 675"}, {2, 3, 650, "500 525 550 0; 75 0 25 1000; 1000 775 50 650"},
	} {
		want := impl.Marks{Grades: someMarks().Grades, Components: rowsOf(w.components)}
		if x, ok := impl.SetComponent(someMarks(), w.component, w.judge, w.mark); !sameMarks(x, want) || !ok {
			t.Errorf("SetComponent %d by %d to %d = %v, %v", w.component, w.judge, w.mark, x, ok)
		}
	}
	for i := range 3 {
		for judge := range 4 {
			for _, n := range append([]int{-1000, -50, -25, -24, 5, 10, 24, 25, 26, 975, 990, 999, 1001, 1025, 1050}, wild...) {
				checkSet(t, someMarks(), 3+i, judge, n)
			}
		}
	}
}

// Each mark of many marks is set to what it is and to others.
func TestSetMarks(t *testing.T) {
	manyMarks(func(seed int, m impl.Marks) {
		next := mixing(seed)
		judges := judgesOfMarks(m)
		for k := range judges[0] {
			judge := next(len(judges))
			checkSet(t, m, k, judge, judges[judge][k])
			checkSet(t, m, k, judge, next(13)-6)
			checkSet(t, m, k, judge, 25*(next(43)-1))
		}
	})
}

func TestDropJudge(t *testing.T) {
	for judge, want := range []impl.Marks{
		marksOf("2 -1 5; 1 1 3; -2 -3 -4", "525 550 0; 0 25 1000; 775 50 675"),
		marksOf("0 -1 5; -5 1 3; 4 -3 -4", "500 550 0; 75 25 1000; 1000 50 675"),
		marksOf("0 2 5; -5 1 3; 4 -2 -4", "500 525 0; 75 0 1000; 1000 775 675"),
		marksOf("0 2 -1; -5 1 1; 4 -2 -3", "500 525 550; 75 0 25; 1000 775 50"),
	} {
		x, ok := impl.DropJudge(someMarks(), judge)
		if !sameMarks(x, want) || !ok {
			t.Errorf("DropJudge of %d = %v, %v", judge, x, ok)
		}
		// Three judges must stay.
		for other := range 3 {
			if y, ok := impl.DropJudge(x, other); !isNoMarks(y) || ok {
				t.Errorf("DropJudge of %d of three = %v, %v", other, y, ok)
			}
		}
	}
	if x, ok := impl.DropJudge(marksOf("", "0 25 50 75; 100 125 150 175; 200 225 250 275"), 1); !sameMarks(x, marksOf("", "0 50 75; 100 150 175; 200 250 275")) || !ok {
		t.Errorf("without items DropJudge = %v, %v", x, ok)
	}
}

func TestAddJudge(t *testing.T) {
	x, ok := impl.AddJudge(someMarks(), []int{-5, 5, 0}, []int{0, 1000, 25})
	if !sameMarks(x, marksOf("0 2 -1 5 -5; -5 1 1 3 5; 4 -2 -3 -4 0", "500 525 550 0 0; 75 0 25 1000 1000; 1000 775 50 675 25")) || !ok {
		t.Errorf("AddJudge = %v, %v", x, ok)
	}
	for _, none := range [][]int{nil, {}} {
		x, ok := impl.AddJudge(marksOf("", "0 25 50; 75 100 125; 150 175 200"), none, []int{225, 250, 275})
		if !sameMarks(x, marksOf("", "0 25 50 225; 75 100 125 250; 150 175 200 275")) || !ok {
			t.Errorf("without items AddJudge = %v, %v", x, ok)
		}
	}
	for _, items := range []int{0, 1, 14} {
		eight, nine := mixedMarks(4, items, 8), mixedMarks(4, items, 9)
		last := judgesOfMarks(nine)[8]
		x, ok := impl.AddJudge(eight, last[:items], last[items:])
		if n, _ := impl.JudgesOf(x); n != 9 || !ok {
			t.Errorf("AddJudge to eight judges = %v, %v", x, ok)
		}
		if x, ok := impl.AddJudge(nine, last[:items], last[items:]); !isNoMarks(x) || ok {
			t.Errorf("AddJudge to nine judges = %v, %v", x, ok)
		}
	}
}

// Lists of a judge that are too short or too long, or have a number that is not valid.
func TestAddJudgeWithOtherLists(t *testing.T) {
	grades, components := []int{1, 2, 3}, []int{25, 50, 75}
	for _, l := range [][]int{nil, {}, {1}, {1, 2}, {1, 2, 3, 4}, repeated(1, 14), repeated(0, 10000)} {
		calm(t, fmt.Sprint("AddJudge with ", len(l), " numbers"), func() {
			if x, ok := impl.AddJudge(someMarks(), l, components); !isNoMarks(x) || ok {
				t.Errorf("AddJudge with the grades %v = %v, %v", l, x, ok)
			}
			if x, ok := impl.AddJudge(someMarks(), grades, repeated(25, len(l))); !isNoMarks(x) || ok {
				t.Errorf("AddJudge with %d components = %v, %v", len(l), x, ok)
			}
		})
	}
	for items := range 3 {
		m := mixedMarks(2, items, 3)
		for n := range 5 {
			x, ok := impl.AddJudge(m, repeated(1, n), components)
			if ok != (n == items) || isNoMarks(x) == ok {
				t.Errorf("AddJudge with %d grades for %d items = %v, %v", n, items, x, ok)
			}
		}
	}
	for k := range 3 {
		for _, n := range append([]int{-6, -5, 5, 6, 10, 24, 26, 500, 1025, -25}, wild...) {
			wrong := slices.Clone(grades)
			wrong[k] = n
			if x, ok := impl.AddJudge(someMarks(), wrong, components); ok != (-5 <= n && n <= 5) || isNoMarks(x) == ok {
				t.Errorf("AddJudge with the grades %v = %v, %v", wrong, x, ok)
			}
			wrong = slices.Clone(components)
			wrong[k] = n
			if x, ok := impl.AddJudge(someMarks(), grades, wrong); ok != (0 <= n && n <= 1000 && n%25 == 0) || isNoMarks(x) == ok {
				t.Errorf("AddJudge with the components %v = %v, %v", wrong, x, ok)
			}
		}
	}
}

func TestSwapJudges(t *testing.T) {
	for _, w := range []struct {
		a, b int
		want impl.Marks
	}{
		{0, 3, marksOf("5 2 -1 0; 3 1 1 -5; -4 -2 -3 4", "0 525 550 500; 1000 0 25 75; 675 775 50 1000")},
		{1, 2, marksOf("0 -1 2 5; -5 1 1 3; 4 -3 -2 -4", "500 550 525 0; 75 25 0 1000; 1000 50 775 675")},
		{0, 1, marksOf("2 0 -1 5; 1 -5 1 3; -2 4 -3 -4", "525 500 550 0; 0 75 25 1000; 775 1000 50 675")},
	} {
		for _, pair := range [][2]int{{w.a, w.b}, {w.b, w.a}} {
			if x, ok := impl.SwapJudges(someMarks(), pair[0], pair[1]); !sameMarks(x, w.want) || !ok {
				t.Errorf("SwapJudges of %v = %v, %v", pair, x, ok)
			}
		}
	}
	for judge := range 4 {
		if x, ok := impl.SwapJudges(someMarks(), judge, judge); !sameMarks(x, someMarks()) || !ok {
			t.Errorf("SwapJudges of %d with itself = %v, %v", judge, x, ok)
		}
	}
	if x, ok := impl.SwapJudges(marksOf("", "0 25 50; 75 100 125; 150 175 200"), 0, 2); !sameMarks(x, marksOf("", "50 25 0; 125 100 75; 200 175 150")) || !ok {
		t.Errorf("without items SwapJudges = %v, %v", x, ok)
	}
}

func TestCountGrades(t *testing.T) {
	even := "500 500 500 500; 0 0 0 0; 0 0 0 0"
	for _, w := range []struct {
		marks  impl.Marks
		counts []int
	}{
		{someMarks(), []int{1, 1, 1, 1, 1, 1, 2, 1, 1, 1, 1}},
		{marksOf("", even), repeated(0, 11)},
		{marksOf("-5 -4 -3 -2; -1 0 1 2; 3 4 5 0", even), []int{1, 1, 1, 1, 1, 2, 1, 1, 1, 1, 1}},
		{marksOf("5 4 3 2; 1 0 -1 -2; -3 -4 -5 5", even), []int{1, 1, 1, 1, 1, 1, 1, 1, 1, 1, 2}},
		{marksOf("-5 -5 -5 5; 5 -5 5 5", even), []int{4, 0, 0, 0, 0, 0, 0, 0, 0, 0, 4}},
		{evenMarks(14, 9, -5, 0), []int{126, 0, 0, 0, 0, 0, 0, 0, 0, 0, 0}},
		{evenMarks(14, 9, 5, 0), []int{0, 0, 0, 0, 0, 0, 0, 0, 0, 0, 126}},
		{evenMarks(14, 9, 0, 0), []int{0, 0, 0, 0, 0, 126, 0, 0, 0, 0, 0}},
	} {
		if l, ok := impl.CountGrades(w.marks); !slices.Equal(l, w.counts) || !ok {
			t.Errorf("%v: CountGrades = %v, %v; want %v", w.marks, l, ok, w.counts)
		}
	}
	for grade := -5; grade <= 5; grade++ {
		want := repeated(0, 11)
		want[grade+5] = 20
		if l, ok := impl.CountGrades(evenMarks(4, 5, grade, 25)); !slices.Equal(l, want) || !ok {
			t.Errorf("CountGrades of the grade %d = %v, %v", grade, l, ok)
		}
	}
}

func TestMarksText(t *testing.T) {
	for _, w := range []struct {
		marks impl.Marks
		text  string
	}{
		{someMarks(), "g 0 2 -1 5\ng -5 1 1 3\ng 4 -2 -3 -4\nc 500 525 550 0\nc 75 0 25 1000\nc 1000 775 50 675\n"},
		{marksOf("", "500 525 550; 0 25 50; 1000 975 950"), "c 500 525 550\nc 0 25 50\nc 1000 975 950\n"},
		{evenMarks(0, 3, 0, 0), "c 0 0 0\nc 0 0 0\nc 0 0 0\n"},
		{evenMarks(2, 4, -5, 25), "g -5 -5 -5 -5\ng -5 -5 -5 -5\nc 25 25 25 25\nc 25 25 25 25\nc 25 25 25 25\n"},
		{evenMarks(1, 3, 5, 1000), "g 5 5 5\nc 1000 1000 1000\nc 1000 1000 1000\nc 1000 1000 1000\n"},
		{evenMarks(14, 9, -5, 1000), strings.Repeat("g"+strings.Repeat(" -5", 9)+"\n", 14) + strings.Repeat("c"+strings.Repeat(" 1000", 9)+"\n", 3)},
		{marksOf("0 2 -1", "75 50 25; 0 100 0; 0 0 0"), "g 0 2 -1\nc 75 50 25\nc 0 100 0\nc 0 0 0\n"},
	} {
		if s, ok := impl.MarksText(w.marks); s != w.text || !ok {
			t.Errorf("%v: MarksText = %q, %v; want %q", w.marks, s, ok, w.text)
		}
		if x, ok := impl.ParseMarks(w.text); !sameMarks(x, w.marks) || !ok {
			t.Errorf("ParseMarks of %q = %v, %v; want %v", w.text, x, ok, w.marks)
		}
	}
}

// nearlyMarks are texts that are none, though each is close to one.
func nearlyMarks() []string {
	texts := []string{
		"", "\n", "g", "c", "g 0 2 -1\n", "c 0 0 0\n", "c 0 0 0\nc 0 0 0\n", "c 0 0 0\nc 0 0 0\nc 0 0 0\nc 0 0 0\n", "g 0 2 -1\nc 0 0 0\nc 0 0 0\n", "g 0 2 -1\nc 0 0 0\nc 0 0 0\nc 0 0 0\nc 0 0 0\n",
		"g\nc\nc\nc\n", "c\nc\nc\n", "c \nc \nc \n", "g 1\nc 0\nc 0\nc 0\n", "g 1 1\nc 0 0\nc 0 0\nc 0 0\n",
		"g 1 1 1 1 1 1 1 1 1 1\n" + strings.Repeat("c 0 0 0 0 0 0 0 0 0 0\n", 3), strings.Repeat("g 1 1 1\n", 15) + strings.Repeat("c 0 0 0\n", 3),
		// Lines in another order.
		"c 0 0 0\ng 0 2 -1\nc 0 0 0\nc 0 0 0\n", "c 0 0 0\nc 0 0 0\nc 0 0 0\ng 0 2 -1\n", "g 0 2 -1\nc 0 0 0\ng 0 2 -1\nc 0 0 0\nc 0 0 0\n", "c 0 0 0\nc 0 0 0\ng 0 2 -1\nc 0 0 0\n",
		// Rows of different lengths.
		"g 0 2\nc 0 0 0\nc 0 0 0\nc 0 0 0\n", "g 0 2 -1 0\nc 0 0 0\nc 0 0 0\nc 0 0 0\n", "g 0 2 -1\nc 0 0\nc 0 0 0\nc 0 0 0\n", "g 0 2 -1\nc 0 0 0\nc 0 0 0 0\nc 0 0 0\n", "g 0 2 -1\nc 0 0 0\nc 0 0 0\nc 0 0\n",
		"g 0 2 -1\nc 0 0 0\nc 0 0 0\nc\n", "g\nc 0 0 0\nc 0 0 0\nc 0 0 0\n", "g 0 2 -1\ng 0 2 -1 0\nc 0 0 0\nc 0 0 0\nc 0 0 0\n",
	}
	good := "g 0 2 -1\ng 5 -5 0\nc 500 0 25\nc 50 75 1000\nc 0 0 0\n"
	for _, w := range []struct{ old, new string }{
		// Blanks and newlines.
		{"g 0", " g 0"}, {"g 0 2 -1\n", "g 0 2 -1 \n"}, {"g 0", "g  0"}, {"0 2", "0  2"}, {"2 -1", "2  -1"}, {"c 500", " c 500"}, {"0 25\n", "0 25 \n"}, {"c 500", "c  500"}, {"75 1000", "75  1000"}, {"c 0 0 0\n", "c 0 0 0 \n"},
		{"c 0 0 0\n", "c 0 0 0"}, {"c 0 0 0\n", "c 0 0 0\n\n"}, {"c 0 0 0\n", "c 0 0 0\n "}, {"-1\n", "-1\n\n"}, {"25\n", "25\n\n"}, {"g 0", "\ng 0"}, {"-1\n", "-1\r\n"}, {"g 0", "g\t0"}, {"0 2", "0\t2"}, {"-1\n", "-1 "}, {"-1\n", "-1"}, {"2 -1", "2\n-1"}, {"25\n", "25"}, {"c 500", "c500"}, {"g 0", "g0"}, {"0 2 -1", "0 2-1"}, {"0 2 -1", "02 -1"}, {"c 0 0 0\n", "c 0 0 0\x00"}, {"c 0 0 0\n", "c 0 0 0\r"},
		// Signs, zeros and other digits.
		{"g 0", "g +0"}, {"0 2", "0 +2"}, {"g 0", "g -0"}, {"g 5 -5 0", "g 5 -5 -0"}, {"c 500", "c +500"}, {"500 0", "500 -0"}, {"500 0", "500 +0"}, {"0 25", "0 -25"}, {"g 0", "g 00"}, {"0 2", "0 02"}, {"2 -1", "2 -01"}, {"-1", "--1"}, {"-1", "- 1"}, {"-1", "1-"}, {"c 500", "c 0500"}, {"0 25", "0 025"}, {"50 75", "50 075"}, {"c 0 0 0", "c 0 0 00"},
		{"0 2", "0 2.0"}, {"0 2", "0 2."}, {"0 2", "0 0x2"}, {"0 2", "0 2e0"}, {"500", "5e2"}, {"500", "5_00"}, {"500", "5,00"}, {"500", "5.00"}, {"0 2", "0 \u0662"}, {"0 2", "0 \uff12"}, {"0 2", "0 x"}, {"0 2", "0 two"}, {"2 -1", "2 \u22121"}, {"0 2 -1", "0 2\u00a0-1"}, {"0 2 -1", "0,2,-1"},
		// Numbers that are too great or too small.
		{"0 2", "0 6"}, {"0 2", "0 -6"}, {"0 2", "0 25"}, {"1000", "1025"}, {"1000", "1001"}, {"1000", "10000"}, {"25\n", "10\n"}, {"25\n", "26\n"}, {"25\n", "-25\n"},
		{"0 2", "0 18446744073709551618"}, {"0 2", "0 9223372036854775807"}, {"0 2", "0 9223372036854775808"}, {"2 -1", "2 -9223372036854775808"}, {"2 -1", "2 -9223372036854775809"}, {"0 2", "0 4294967298"}, {"0 2", "0 258"}, {"500", "18446744073709552116"}, {"500", strings.Repeat("9", 1000)}, {"0 2", "0 " + strings.Repeat("0", 1000) + "2"},
		// Other words.
		{"g 0", "G 0"}, {"c 500", "C 500"}, {"g 0", "gg 0"}, {"c 500", "cc 500"}, {"g 0", "c 0"}, {"c 500", "g 500"}, {"g 5", "c 5"}, {"g 0", "x 0"}, {"c 500", "x 500"}, {"g 0", "grades 0"}, {"g 0", "0"}, {"g 0 2", "0 2"}, {"c 500 0", "500 0"}, {"g 0", "-0"}, {"g 0", "\xff 0"}, {"g 0", "g: 0"}, {"g 5", "h 5"}, {"c 50 ", "d 50 "}, {"c 0 0 0\n", "g 0 0 0\n"}, {"c 0 0 0\n", "c 0 0 0\nx\n"}, {"c 0 0 0\n", "c 0 0 0\nend"}, {"g 0", "g g 0"}, {"g 0", "g 0 g"},
	} {
		texts = append(texts, strings.Replace(good, w.old, w.new, 1))
	}
	for _, space := range []string{" ", "\t", "\r", "\v", "\u00a0", "\ufeff", "\x00"} {
		texts = append(texts, space+good, good+space, strings.ReplaceAll(good, "\n", space+"\n"), strings.ReplaceAll(good, "\n", "\n"+space))
	}
	return append(texts, good[:len(good)-1], good+"\n", good+good, good+"c 0 0 0\n", good+"g 0 0 0\n", strings.ReplaceAll(good, "\n", " "))
}

func TestTextsThatAreNoMarks(t *testing.T) {
	for _, s := range nearlyMarks() {
		if _, ok := plainParseMarks(s); ok {
			t.Errorf("%.60q: the test is wrong", s)
		}
		calm(t, fmt.Sprintf("ParseMarks of %.60q", s), func() {
			if x, ok := impl.ParseMarks(s); !isNoMarks(x) || ok {
				t.Errorf("ParseMarks of %.60q = %v, %v", s, x, ok)
			}
		})
	}
}

var (
	gradesLine     = regexp.MustCompile(`^g( (0|-?[1-5])){3,9}$`)
	componentsLine = regexp.MustCompile(`^c( (0|25|50|75|[1-9](00|25|50|75)|1000)){3,9}$`)
)

// plainParseMarks are the marks of a text as the document describes it.
func plainParseMarks(s string) (impl.Marks, bool) {
	lines := strings.Split(s, "\n")
	if len(lines) < 4 || lines[len(lines)-1] != "" {
		return impl.Marks{}, false
	}
	var m impl.Marks
	for i, line := range lines[:len(lines)-1] {
		row := intsOf(strings.Fields(line)[min(1, len(strings.Fields(line))):])
		switch isGrades := i < len(lines)-4; {
		case isGrades && gradesLine.MatchString(line):
			m.Grades = append(m.Grades, row)
		case !isGrades && componentsLine.MatchString(line):
			m.Components = append(m.Components, row)
		default:
			return impl.Marks{}, false
		}
	}
	if !plainMarks(m) {
		return impl.Marks{}, false
	}
	return m, true
}

// Each byte of a text is left out, put in once more and put in the place of others, and each line is.
func TestParseMarksOfChangedTexts(t *testing.T) {
	parsed := 0
	check := func(s string) {
		want, can := plainParseMarks(s)
		if can {
			parsed++
		}
		if x, ok := impl.ParseMarks(s); ok != can || !sameMarks(x, want) {
			t.Errorf("ParseMarks of %q = %v, %v; want %v", s, x, ok, want)
		}
	}
	for _, text := range []string{plainMarksText(someMarks()), plainMarksText(marksOf("-1 0 3", "0 25 100; 1000 50 0; 75 0 925")), plainMarksText(evenMarks(0, 3, 0, 0))} {
		for i := range text {
			texts := []string{text[:i], text[i:], text[:i] + text[i+1:], text[:i] + text[i:i+1] + text[i:]}
			for _, s := range []string{"0", "1", "2", "5", "6", "00", "25", " ", " 0", "\n", "-", "+", "g", "c", "x", "\x00", "\xff"} {
				texts = append(texts, text[:i]+s+text[i:], text[:i]+s+text[i+1:])
			}
			for _, s := range texts {
				check(s)
			}
		}
		lines := strings.SplitAfter(text, "\n")
		for i := range lines {
			for k := range lines {
				moved := slices.Insert(slices.Delete(slices.Clone(lines), i, i+1), min(k, len(lines)-1), lines[i])
				check(strings.Join(moved, ""))
				check(strings.Join(slices.Insert(slices.Clone(lines), k, lines[i]), ""))
			}
			check(strings.Join(slices.Delete(slices.Clone(lines), i, i+1), ""))
		}
	}
	if parsed < 100 {
		t.Errorf("only %d texts of marks", parsed)
	}
}

// Each number stands for itself alone, at each place of a text.
func TestParseMarksOfEachNumber(t *testing.T) {
	for n := -1100; n <= 1100; n++ {
		for _, form := range []string{"g # 0 0\nc 0 0 0\nc 0 0 0\nc 0 0 0\n", "g 0 0 #\nc 0 0 0\nc 0 0 0\nc 0 0 0\n", "g 0 0 0\nc # 0 0\nc 0 0 0\nc 0 0 0\n", "c 0 0 0\nc 0 0 0\nc 0 # 0\n"} {
			for _, word := range []string{strconv.Itoa(n), fmt.Sprintf("%03d", n), fmt.Sprintf("%+d", n)} {
				s := strings.Replace(form, "#", word, 1)
				want, can := plainParseMarks(s)
				if x, ok := impl.ParseMarks(s); ok != can || !sameMarks(x, want) {
					t.Errorf("ParseMarks of %q = %v, %v", s, x, ok)
				}
			}
		}
	}
}

func TestPromise9TextsOfMarksAreReadBack(t *testing.T) {
	texts := map[string]impl.Marks{}
	manyMarks(func(_ int, m impl.Marks) {
		checkMarks(t, m)
		s, ok := impl.MarksText(m)
		if !ok {
			t.Errorf("%v: MarksText fails", m)
		}
		if x, ok := impl.ParseMarks(s); !sameMarks(x, m) || !ok {
			t.Errorf("ParseMarks of %q = %v, %v; want %v", s, x, ok, m)
		}
		// Other marks have another text.
		if other, there := texts[s]; there && !sameMarks(other, m) {
			t.Errorf("%q is the text of %v and %v", s, m, other)
		}
		texts[s] = m
	})
	if len(texts) < 180 {
		t.Errorf("only %d texts", len(texts))
	}
}

func TestPromise9AddedJudgesAreDroppedAgain(t *testing.T) {
	added := 0
	manyMarks(func(seed int, m impl.Marks) {
		items, judges := len(m.Grades), judgesOfMarks(m)
		further := judgesOfMarks(mixedMarks(seed+1000, items, 3))
		// The one who is added may be like another one too.
		for _, column := range append(further, judges...) {
			x, ok := impl.AddJudge(m, column[:items], column[items:])
			if !ok {
				if len(judges) < 9 {
					t.Errorf("%v: AddJudge of %v fails", m, column)
				}
				continue
			}
			added++
			if g, c, ok := impl.JudgeMarks(x, len(judges)); !slices.Equal(g, column[:items]) || !slices.Equal(c, column[items:]) || !ok {
				t.Errorf("%v: JudgeMarks of the judge added = %v, %v, %v", x, g, c, ok)
			}
			if y, ok := impl.DropJudge(x, len(judges)); !sameMarks(y, m) || !ok {
				t.Errorf("%v: DropJudge of the judge added = %v, %v; want %v", x, y, ok, m)
			}
			// One who is swapped to the end, dropped there and added again is swapped back.
			for judge := range judges {
				y, ok := impl.SwapJudges(x, judge, len(judges))
				z, good := impl.DropJudge(y, len(judges))
				z, fine := impl.AddJudge(z, judges[judge][:items], judges[judge][items:])
				z, done := impl.SwapJudges(z, len(judges), judge)
				if !ok || !good || !fine || !done || !sameMarks(z, x) {
					t.Errorf("%v: judge %d is %v behind all", x, judge, z)
				}
			}
		}
	})
	if added < 1000 {
		t.Errorf("only %d judges are added", added)
	}
}

// Judges are added one by one, up to the most, and dropped one by one, down to the fewest.
func TestPromise9JudgesAreAddedAndDroppedOneByOne(t *testing.T) {
	for _, items := range []int{0, 1, 7, 14} {
		all := mixedMarks(items, items, 9)
		judges := judgesOfMarks(all)
		m := marksOfJudges(items, judges[:3])
		for n := 3; n < 9; n++ {
			var ok bool
			if m, ok = impl.AddJudge(m, judges[n][:items], judges[n][items:]); !sameMarks(m, marksOfJudges(items, judges[:n+1])) || !ok {
				t.Fatalf("AddJudge of judge %d = %v, %v", n, m, ok)
			}
		}
		for n := 9; n > 3; n-- {
			judge := n * 2 % n
			judges = slices.Delete(slices.Clone(judges), judge, judge+1)
			var ok bool
			if m, ok = impl.DropJudge(m, judge); !sameMarks(m, marksOfJudges(items, judges)) || !ok {
				t.Fatalf("DropJudge of judge %d of %d = %v, %v", judge, n, m, ok)
			}
		}
	}
}

// A number that is not valid is not made good by another one over it, or with its judge; one judge more or less makes no marks of what are none.
func TestPromise33WrongMarksStay(t *testing.T) {
	for i := range 3 {
		for judge := range 4 {
			for _, n := range []int{-6, 6, -25, 10, 1025, 1000000} {
				for what, m := range map[string]impl.Marks{
					"grade":     changedMarks(someMarks(), func(m *impl.Marks) { m.Grades[i][judge] = n }),
					"component": changedMarks(someMarks(), func(m *impl.Marks) { m.Components[i][judge] = n }),
				} {
					if x, ok := impl.SetGrade(m, i, judge, 0); !isNoMarks(x) || ok {
						t.Errorf("SetGrade over the %s %d = %v, %v", what, n, x, ok)
					}
					if x, ok := impl.SetComponent(m, i, judge, 0); !isNoMarks(x) || ok {
						t.Errorf("SetComponent over the %s %d = %v, %v", what, n, x, ok)
					}
					if x, ok := impl.DropJudge(m, judge); !isNoMarks(x) || ok {
						t.Errorf("DropJudge with the %s %d = %v, %v", what, n, x, ok)
					}
				}
			}
		}
	}
	for _, items := range []int{0, 1, 14} {
		if x, ok := impl.AddJudge(evenMarks(items, 2, 0, 0), repeated(0, items), repeated(0, 3)); !isNoMarks(x) || ok {
			t.Errorf("AddJudge to two judges = %v, %v", x, ok)
		}
		if x, ok := impl.DropJudge(evenMarks(items, 10, 0, 0), 0); !isNoMarks(x) || ok {
			t.Errorf("DropJudge of ten judges = %v, %v", x, ok)
		}
	}
}

func TestPromise33MarksThatAreNotValid(t *testing.T) {
	for what, m := range badMarks() {
		before := copiedMarks(m)
		checkNoMarks(t, what, m)
		calm(t, what, func() {
			for _, n := range []int{0, 1, 3, len(m.Grades)} {
				for _, components := range [][]int{nil, {0}, {0, 0, 0}, repeated(0, len(m.Components))} {
					if x, ok := impl.AddJudge(m, repeated(0, n), components); !isNoMarks(x) || ok {
						t.Errorf("%s: AddJudge = %v, %v", what, x, ok)
					}
				}
			}
			for i := range 4 {
				for judge := range 4 {
					x, ok := impl.SetGrade(m, i, judge, 0)
					y, good := impl.SetComponent(m, i, judge, 0)
					z, fine := impl.SwapJudges(m, i, judge)
					if !isNoMarks(x) || !isNoMarks(y) || !isNoMarks(z) || ok || good || fine {
						t.Errorf("%s: SetGrade, SetComponent or SwapJudges = %v, %v, %v", what, x, y, z)
					}
				}
			}
		})
		if !sameMarks(m, before) {
			t.Errorf("%s: the marks are changed", what)
		}
	}
}

func TestPromise33MarksAcceptAllArguments(t *testing.T) {
	m := someMarks()
	for _, a := range wild {
		for _, b := range wild {
			calm(t, fmt.Sprint("calls with ", a, " and ", b), func() {
				impl.AreMarks(m, a)
				impl.JudgeMarks(m, a)
				impl.DropJudge(m, a)
				impl.SwapJudges(m, a, b)
				for _, n := range []int{-1, 0, 3, 4} {
					for _, l := range [][3]int{{a, b, n}, {a, n, b}, {n, a, b}} {
						impl.SetGrade(m, l[0], l[1], l[2])
						impl.SetComponent(m, l[0], l[1], l[2])
						impl.AddJudge(m, l[:], l[:])
					}
				}
				other := someMarks()
				other.Grades[2][3], other.Components[1][0] = a, b
				good := a >= -5 && a <= 5 && b >= 0 && b <= 1000 && b%25 == 0
				if is := impl.AreMarks(other, 3); is != good {
					t.Errorf("with the grade %d and the component %d AreMarks = %v", a, b, is)
				}
				marksAnswers(other)
			})
		}
	}
	for _, s := range []string{"\x00", "\xff", "\n", "\u20ac", " ", "g ", "c ", strings.Repeat("5", 100000), strings.Repeat(" ", 100000), strings.Repeat("\n", 100000), strings.Repeat("g\n", 100000), strings.Repeat("c 0 0 0\n", 100000), "g " + strings.Repeat("0 ", 100000)} {
		calm(t, "ParseMarks of wild strings", func() {
			if x, ok := impl.ParseMarks(s); !isNoMarks(x) || ok {
				t.Errorf("ParseMarks of %.20q = %v, %v", s, x, ok)
			}
		})
	}
}

// sparedRows are a copy of rows in which all slices have spare capacity with more of what rows can have.
func sparedRows(rows [][]int) [][]int {
	rows = copiedRows(rows)
	for i, row := range rows {
		rows[i] = append(row, 0, 77, 25)[:len(row)]
	}
	judges := 3
	if len(rows) > 0 {
		judges = len(rows[0])
	}
	return append(rows, repeated(0, judges), []int{77})[:len(rows)]
}

func sparedMarks(m impl.Marks) impl.Marks {
	return impl.Marks{Grades: sparedRows(m.Grades), Components: sparedRows(m.Components)}
}

func TestPromise33MarksAreLeftAsTheyAre(t *testing.T) {
	manyMarks(func(seed int, plain impl.Marks) {
		m := sparedMarks(plain)
		before := wholeText(reflect.ValueOf(m))
		answers, further := marksAnswers(m), marksAnswers(m)
		if !impl.AreMarks(m, len(plain.Grades)) {
			t.Errorf("%v: not valid with spare capacity", plain)
		}
		grades, sameGrades := spared(repeated(-2, len(plain.Grades)))
		components, sameComponents := spared([]int{900, 0, 25})
		longer, ok := impl.AddJudge(m, grades, components)
		checkApart(t, "AddJudge", longer, m, grades, components)
		if _, _, good := impl.JudgeMarks(longer, len(plain.Components[0])); good != ok || ok != (len(plain.Components[0]) < 9) {
			t.Errorf("%v: AddJudge = %v, %v", plain, longer, ok)
		}
		if wholeText(reflect.ValueOf(m)) != before || !sameGrades() || !sameComponents() {
			t.Errorf("%v: an argument is changed", plain)
		}
		for what, a := range answers {
			checkApart(t, what, a.value, m, further[what].value)
		}
		// What stands behind the lengths is not read.
		for what, a := range marksAnswers(plain) {
			if b := answers[what]; fmt.Sprintf("%+v", b) != fmt.Sprintf("%+v", a) {
				t.Errorf("%s of %v = %+v; with spare capacity %+v", what, plain, a, b)
			}
		}
		parsed, _ := impl.ParseMarks(plainMarksText(plain))
		again, _ := impl.ParseMarks(plainMarksText(plain))
		checkApart(t, "ParseMarks", parsed, again)
	})
	for what, plain := range badMarks() {
		m := sparedMarks(plain)
		before := wholeText(reflect.ValueOf(m))
		checkNoMarks(t, what, m)
		if wholeText(reflect.ValueOf(m)) != before {
			t.Errorf("%s: the marks are changed", what)
		}
	}
}

// What is behind the lengths makes no marks good or bad.
func TestPromise33MarksReadNothingBehindRows(t *testing.T) {
	for what, m := range goodMarks() {
		if !impl.AreMarks(sparedMarks(m), len(m.Grades)) {
			t.Errorf("%s: not valid with spare capacity", what)
		}
	}
	for what, change := range map[string]func(m *impl.Marks){
		"a component":            func(m *impl.Marks) { m.Components = m.Components[:2] },
		"a judge of an item":     func(m *impl.Marks) { m.Grades[1] = m.Grades[1][:3] },
		"a judge of a component": func(m *impl.Marks) { m.Components[0] = m.Components[0][:3] },
	} {
		checkNoMarks(t, "without "+what, changedMarks(someMarks(), change))
	}
	// The items behind the length are not there.
	m := changedMarks(someMarks(), func(m *impl.Marks) { m.Grades = m.Grades[:1] })
	checkMarks(t, m)
	for _, items := range []int{2, 3} {
		if x, ok := impl.SetGrade(m, items-1, 0, 0); impl.AreMarks(m, items) || !isNoMarks(x) || ok {
			t.Errorf("item %d is there", items-1)
		}
	}
	// The judge of whom the rows have the marks behind their lengths is not there.
	three := changedMarks(someMarks(), func(m *impl.Marks) {
		for _, rows := range [][][]int{m.Grades, m.Components} {
			for i, row := range rows {
				rows[i] = row[:3]
			}
		}
	})
	checkMarks(t, three)
	if g, c, ok := impl.JudgeMarks(three, 3); len(g) != 0 || len(c) != 0 || ok {
		t.Errorf("JudgeMarks of a judge behind the lengths = %v, %v, %v", g, c, ok)
	}
	x, ok := impl.AddJudge(three, []int{1, 2, 3}, []int{25, 50, 75})
	if !ok || three.Grades[0][:4][3] != 5 || three.Components[1][:4][3] != 1000 || isNoMarks(x) {
		t.Errorf("AddJudge writes behind the lengths: %v", three.Grades[0][:4])
	}
}

// Rows of an argument may be the same memory; those of a result may not.
func TestPromise33ResultsOfMarksShareNothing(t *testing.T) {
	zeros := repeated(0, 12)
	row := zeros[:4:4]
	for _, m := range []impl.Marks{
		{Grades: [][]int{row, row, row}, Components: [][]int{row, row, row}},
		// Each row has the next one behind its length.
		{Grades: [][]int{zeros[:4], zeros[4:8]}, Components: [][]int{zeros[8:], zeros[:4], zeros[2:6]}},
	} {
		checkMarks(t, m)
		for what, a := range marksAnswers(m) {
			checkApart(t, what, a.value, m)
		}
		for i := range m.Grades {
			checkSet(t, m, i, i, 5)
			x, ok := impl.SetGrade(m, i, i, m.Grades[i][i])
			checkApart(t, "SetGrade", x, m)
			y, good := impl.SwapJudges(m, i, i)
			checkApart(t, "SwapJudges", y, m)
			if !sameMarks(x, m) || !sameMarks(y, m) || !ok || !good {
				t.Errorf("SetGrade or SwapJudges = %v, %v", x, y)
			}
		}
		// A judge's lists may be rows of the marks.
		x, ok := impl.AddJudge(m, row[:len(m.Grades)], row[:3])
		checkResult(t, "AddJudge", m, x, ok, evenMarks(len(m.Grades), 5, 0, 0))
		checkApart(t, "AddJudge", x, m, row)
	}
	if !slices.Equal(zeros, repeated(0, 12)) {
		t.Errorf("an argument is changed: %v", zeros)
	}
}

// A result stays as it is when the argument is changed afterwards.
func TestPromise33MarksKeepNoArguments(t *testing.T) {
	m, grades, components := someMarks(), []int{1, 2, 3}, []int{25, 50, 75}
	answers := marksAnswers(m)
	longer, ok := impl.AddJudge(m, grades, components)
	before, added := fmt.Sprint(answers), copiedMarks(longer)
	spoilNumbers(grades)
	spoilNumbers(components)
	for _, row := range append(m.Grades, m.Components...) {
		spoilNumbers(row)
	}
	if fmt.Sprint(answers) != before || !sameMarks(longer, added) || !ok {
		t.Errorf("a result changes with its argument")
	}
}
