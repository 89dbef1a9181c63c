package tests

import (
	"fmt"
	"reflect"
	"slices"
	"strings"
	"testing"

	"loop.example/g00912/impl"
)

// planCode has jumps, spins, lifts, figures and steps; no lift is allowed.
func planCode() impl.Code {
	return impl.Code{
		Elements: []impl.Element{
			{Name: "2A", Base: 330}, {Name: "2T", Base: 130}, {Name: "3A", Base: 800}, {Name: "3F", Base: 530}, {Name: "3S", Base: 430},
			{Name: "CSP", Family: 1, Base: 320}, {Name: "FCSP", Family: 1, Base: 350}, {Name: "LIFT", Family: 3, Base: 500},
			{Name: "PIV", Family: 4, Base: 200}, {Name: "STSQ", Family: 2, Base: 330},
		},
		Limits: []int{4, 2, 1, 0, 1}, Repeats: 2, Bonus: 10, Keeps: 80, Fall: 100,
	}
}

func planCodeWith(repeats int, limits ...int) impl.Code {
	c := planCode()
	c.Repeats, c.Limits = repeats, limits
	return c
}

// wideCode has 24 elements, A to X, the families in turn, so that lists can be as long as any.
func wideCode() impl.Code {
	c := impl.Code{Limits: []int{9, 9, 9, 9, 9}, Repeats: 1, Keeps: 50}
	for i := range 24 {
		c.Elements = append(c.Elements, impl.Element{Name: string(rune('A' + i)), Family: i % 5, Base: 10})
	}
	return c
}

// plannedItem is an item with the names of a text, without marks, that is not late.
func plannedItem(text string) impl.Item {
	names := strings.Split(text, "+")
	return impl.Item{Names: names, Marks: make([]int, len(names))}
}

// planned is a list of such items, late as rule 8 says.
func planned(texts ...string) []impl.Item {
	var l []impl.Item
	for _, text := range texts {
		l = append(l, plannedItem(text))
	}
	return plainLate(l)
}

// plainLate returns a copy of a list that is late in its second half, without the item in the middle.
func plainLate(l []impl.Item) []impl.Item {
	l = copiedItems(l)
	for i := range l {
		l[i].Late = i >= len(l)-len(l)/2
	}
	return l
}

func changedPlan(l []impl.Item, change func(l []impl.Item)) []impl.Item {
	l = copiedItems(l)
	change(l)
	return l
}

// plainBroken are the rules that do not hold, counted all at once.
func plainBroken(c impl.Code, l []impl.Item) []int {
	families := map[string]int{}
	for _, x := range c.Elements {
		families[x.Name] = x.Family
	}
	broken := map[int]bool{1: len(l) == 0}
	times, excused, items := map[string]int{}, map[string]bool{}, map[int]int{}
	withNames := [4]int{}
	for i, it := range l {
		withNames[len(it.Names)]++
		for k, name := range it.Names {
			family, known := families[name]
			times[name]++
			if len(it.Names) > 1 {
				excused[name] = true
			}
			if known && k == 0 {
				items[family]++
			}
			broken[2] = broken[2] || !known
			broken[3] = broken[3] || it.Marks[k] > 0
			broken[4] = broken[4] || len(it.Names) > 1 && (!known || family > 0)
		}
		broken[8] = broken[8] || it.Late != (i+i >= len(l))
	}
	broken[5] = withNames[2]+withNames[3] > 3 || withNames[3] > 1
	for family, limit := range c.Limits {
		broken[6] = broken[6] || items[family] > limit
	}
	for name, n := range times {
		broken[7] = broken[7] || n > c.Repeats || n > 1 && !excused[name]
	}
	var rules []int
	for rule := 1; rule <= 8; rule++ {
		if broken[rule] {
			rules = append(rules, rule)
		}
	}
	return rules
}

func checkRules(t *testing.T, what string, c impl.Code, l []impl.Item, want ...int) {
	t.Helper()
	if broken, ok := impl.BrokenRules(c, l); !slices.Equal(broken, want) || !ok {
		t.Errorf("%s: BrokenRules = %v, %v; want %v", what, broken, ok, want)
	}
	for rule := 1; rule <= 8; rule++ {
		if holds, ok := impl.RuleHolds(c, l, rule); holds == slices.Contains(want, rule) || !ok {
			t.Errorf("%s: RuleHolds of %d = %v, %v", what, rule, holds, ok)
		}
	}
	if is, ok := impl.IsProgramme(c, l); is != (len(want) == 0) || !ok {
		t.Errorf("%s: IsProgramme = %v, %v", what, is, ok)
	}
}

func isNoProgramme(l []impl.Item, ok bool) bool { return len(l) == 0 && !ok }

// someProgrammes are programmes for planCode.
func someProgrammes() [][]impl.Item {
	return [][]impl.Item{
		planned("2A"), planned("STSQ"), planned("3A", "2T", "STSQ"), planned("2A", "2T", "3A", "3F"), planned("CSP", "FCSP"), planned("2A+2T", "2A+2T"), planned("2A+2A"),
		planned("PIV", "2T", "2A+2T"), planned("2A+2T+3A", "3F+3S", "2A+3A", "2T"), planned("2A+2T+3A", "3F+3S", "2A+3A", "2T", "CSP", "FCSP", "PIV", "STSQ"),
	}
}

func TestProgrammeConstants(t *testing.T) {
	if impl.MaxCombined != 3 || impl.Rules != 8 {
		t.Error("constants", impl.MaxCombined, impl.Rules)
	}
}

// Each rule just kept by a programme, and broken alone.
func TestRules(t *testing.T) {
	for _, w := range []struct {
		rule int
		code impl.Code
		kept []impl.Item
		bad  []impl.Item
	}{
		{1, planCode(), planned("2A"), nil},
		{1, planCodeWith(1, 0, 1, 0, 0, 0), planned("CSP"), []impl.Item{}},
		{2, planCode(), planned("2A", "3S"), planned("2A", "3T")},
		{2, planCode(), planned("CSP"), planned("CS")},
		{2, planCode(), planned("CSP"), planned("CSPA")},
		{2, planCode(), planned("STSQ", "PIV"), planned("X", "PIV")},
		{3, planCode(), planned("2A", "2T"), changedPlan(planned("2A", "2T"), func(l []impl.Item) { l[0].Marks[0] = 1 })},
		{3, planCode(), planned("2A", "2T"), changedPlan(planned("2A", "2T"), func(l []impl.Item) { l[1].Marks[0] = 2 })},
		{3, planCode(), planned("2A", "2T"), changedPlan(planned("2A", "2T"), func(l []impl.Item) { l[0].Marks[0], l[1].Marks[0] = 3, 3 })},
		{3, planCode(), planned("CSP", "2A+2T+3A"), changedPlan(planned("CSP", "2A+2T+3A"), func(l []impl.Item) { l[1].Marks[2] = 3 })},
		{4, planCode(), planned("2A+2T"), planned("2A+CSP")},
		{4, planCode(), planned("2A+2T"), planned("CSP+2A")},
		{4, planCode(), planned("2A+2T+3F"), planned("2A+2T+STSQ")},
		{4, planCode(), planned("2A+2T+3F"), planned("2A+PIV+3F")},
		{4, planCode(), planned("2A+2T+3F"), planned("PIV+2T+3F")},
		{4, planCode(), planned("CSP", "FCSP"), planned("CSP+FCSP")},
		{4, planCode(), planned("STSQ", "2A+2A"), planned("STSQ", "2A+LIFT")},
		{5, planCode(), planned("2A+2T", "3A+3F", "3S+2A", "2T"), planned("2A+2T", "3A+3F", "3S+2A", "2T+3A")},
		{5, planCode(), planned("2A+2T+3A", "3F+3S", "CSP"), planned("2A+2T+3A", "3F+3S+2A", "CSP")},
		{5, planCode(), planned("2A+2T", "3A+3F+3S", "2A+3F"), planned("3A+3F+3S", "2A+2T", "3A+3F+2A")},
		{5, planCodeWith(3, 4, 2, 1, 0, 1), planned("2A+2T+3A", "3F+2A", "3S+2A"), planned("2A+2T+3A", "3F+2A", "3S+2A", "3F+3S")},
		{6, planCode(), planned("2A", "2T", "3A", "3F"), planned("2A", "2T", "3A", "3F", "3S")},
		{6, planCode(), planned("2A+2T", "2A", "3F+3S", "2T"), planned("2A+2T", "2A", "3F+3S", "2T", "3A")},
		{6, planCodeWith(2, 0, 2, 0, 0, 0), planned("CSP", "FCSP"), planned("CSP", "2A", "FCSP")},
		{6, planCode(), planned("STSQ", "PIV"), planned("STSQ", "PIV", "LIFT")},
		{7, planCode(), planned("2A", "2A+2T"), planned("2A", "2A", "2T")},
		{7, planCode(), planned("2A+2T", "2A"), planned("2A+2T", "2A", "2A")},
		{7, planCode(), planned("2A+2A"), planned("2A+2A", "2A")},
		{7, planCode(), planned("2A+2A", "2T"), planned("2A+2A+2A", "2T")},
		{7, planCode(), planned("2A+2T", "3F+2T"), planned("2A+2T", "3F+2T", "2T+3A")},
		{7, planCode(), planned("2A+2T", "2A", "CSP"), planned("2A+2T", "CSP", "CSP")},
		{7, planCodeWith(1, 4, 2, 1, 0, 1), planned("2A+2T"), planned("2A+2A")},
		{7, planCodeWith(1, 4, 2, 1, 0, 1), planned("2A", "2T+3A"), planned("2A", "2T+2A")},
		{7, planCodeWith(3, 4, 2, 1, 0, 1), planned("2A", "2A+2T", "2A"), planned("2A", "2A", "2T", "2A")},
		{7, planCodeWith(3, 4, 2, 1, 0, 1), planned("2A+2A+2A"), planned("2A+2A+2A", "2A")},
		{7, planCodeWith(3, 4, 2, 1, 0, 1), planned("2A+2T", "2A+2T", "2T+3A"), planned("2A+2T", "2A+2T", "2T+3A", "2T")},
		{8, planCode(), planned("2A"), changedPlan(planned("2A"), func(l []impl.Item) { l[0].Late = true })},
		{8, planCode(), planned("2A", "2T"), changedPlan(planned("2A", "2T"), func(l []impl.Item) { l[1].Late = false })},
		{8, planCode(), planned("2A", "2T"), changedPlan(planned("2A", "2T"), func(l []impl.Item) { l[0].Late = true })},
		{8, planCode(), planned("2A", "2T", "3A"), changedPlan(planned("2A", "2T", "3A"), func(l []impl.Item) { l[1].Late = true })},
		{8, planCode(), planned("2A", "2T", "3A"), changedPlan(planned("2A", "2T", "3A"), func(l []impl.Item) { l[2].Late = false })},
	} {
		what := fmt.Sprint("rule ", w.rule)
		checkRules(t, what+" kept by "+plainTexts(w.kept), w.code, w.kept)
		checkRules(t, what+" broken by "+plainTexts(w.bad), w.code, w.bad, w.rule)
	}
	for _, l := range someProgrammes() {
		checkRules(t, plainTexts(l), planCode(), l)
	}
}

func plainTexts(l []impl.Item) string {
	var texts []string
	for _, it := range l {
		texts = append(texts, plainText(it))
	}
	return strings.Join(texts, ", ")
}

func TestSeveralBrokenRules(t *testing.T) {
	noJumps := planCodeWith(2, 0, 2, 1, 0, 1)
	for _, w := range []struct {
		code   impl.Code
		list   []impl.Item
		broken []int
	}{
		// A name that the code does not have is in no family, but it can be repeated.
		{planCode(), planned("3T+2A"), []int{2, 4}},
		{planCode(), planned("2A+3T"), []int{2, 4}},
		{planCode(), planned("2A", "3T+4T+5T"), []int{2, 4}},
		{planCode(), planned("3T", "3T"), []int{2, 7}},
		{planCode(), planned("3T", "3T+2A"), []int{2, 4}},
		{noJumps, planned("3T", "4T", "5T", "6T", "7T", "8T", "9T"), []int{2}},
		{noJumps, planned("3T+2A"), []int{2, 4}},
		{noJumps, planned("2A+3T"), []int{2, 4, 6}},
		{planCode(), planned("CSP+2A", "CSP", "FCSP"), []int{4, 6}},
		{planCode(), planned("STSQ", "STSQ"), []int{6, 7}},
		{planCode(), planned("LIFT+LIFT+LIFT"), []int{4, 6, 7}},
		{planCode(), planned("2A+2T", "2A+2T", "2A+2T", "2A+2T"), []int{5, 7}},
		{planCode(), planned("2A+2T+3A", "2A+2T+3A", "2A+2T+3A", "2A+2T+3A", "2A+2T+3A"), []int{5, 6, 7}},
		{planCode(), slices.Repeat(planned("2A"), 14), []int{6, 7, 8}},
		{planCode(), []impl.Item{called("3A", true, 3)}, []int{3, 8}},
		{planCode(), []impl.Item{called("3A", true, 1), called("CSP", true, 2), called("CSP", false, 0)}, []int{3, 7, 8}},
		{planCode(), slices.Repeat([]impl.Item{called("X STSQ 2A", true, 0, 1, 2)}, 14), []int{2, 3, 4, 5, 7, 8}},
		{planCode(), slices.Repeat([]impl.Item{called("STSQ 2A X", false, 0, 0, 1)}, 14), []int{2, 3, 4, 5, 6, 7, 8}},
	} {
		checkRules(t, plainTexts(w.list), w.code, w.list, w.broken...)
	}
}

// Each family with each limit, alone and as the family of the first name; the other rules do not matter.
func TestRule6WithEachLimit(t *testing.T) {
	for family := range 5 {
		first, other := string(rune('A'+family)), string(rune('A'+(family+1)%5))
		for limit := range 10 {
			c := wideCode()
			c.Limits = make([]int, 5)
			c.Limits[family] = limit
			for n := range 15 {
				for _, text := range []string{first, first + "+" + other} {
					l := planned(slices.Repeat([]string{text}, n)...)
					if holds, ok := impl.RuleHolds(c, l, 6); holds != (n <= limit) || !ok {
						t.Errorf("%d times %s with the limit %d: %v, %v", n, text, limit, holds, ok)
					}
				}
			}
		}
	}
}

func TestRule8OfEachLateList(t *testing.T) {
	right := []string{"", "-", "-x", "--x", "--xx", "---xx", "---xxx", "----xxx", "----xxxx"}
	for n, lates := range right {
		for pattern := range 1 << n {
			var l []impl.Item
			text := ""
			for i := range n {
				late := pattern>>i&1 == 1
				l = append(l, impl.Item{Names: []string{"2A"}, Marks: []int{0}, Late: late})
				text += map[bool]string{false: "-", true: "x"}[late]
			}
			if holds, ok := impl.RuleHolds(planCode(), l, 8); holds != (text == lates) || !ok {
				t.Errorf("%q: %v, %v", text, holds, ok)
			}
			marked, ok := impl.MarkLate(l)
			if !ok || len(marked) != n {
				t.Errorf("%q: MarkLate = %+v, %v", text, marked, ok)
			}
			for i, it := range marked {
				if it.Late != (lates[i] == 'x') {
					t.Errorf("%q: item %d of MarkLate is late: %v", text, i, it.Late)
				}
			}
		}
	}
}

func TestRuleHoldsOfNoRule(t *testing.T) {
	for _, l := range append(someProgrammes(), nil, someItems()) {
		for _, rule := range append([]int{-8, -7, 9, 10, 16}, wild...) {
			holds, ok := impl.RuleHolds(planCode(), l, rule)
			if good := rule >= 1 && rule <= 8; ok != good || !good && holds {
				t.Errorf("%s: RuleHolds of %d = %v, %v", plainTexts(l), rule, holds, ok)
			}
		}
	}
}

// shortLists are all lists of at most three of some items, which are late or not: each set of rules that few items can break.
func shortLists() [][]impl.Item {
	var items []impl.Item
	for _, late := range []bool{false, true} {
		items = append(items, called("2A", late, 0), called("3A", late, 0), called("2A 3A", late, 0, 0), called("2A 3A 2A", late, 0, 0, 0), called("CSP", late, 0),
			called("CSP 2A", late, 0, 0), called("3T", late, 0), called("3A", late, 1))
	}
	lists := [][]impl.Item{nil}
	for from := 0; len(lists[from]) < 3; from++ {
		for _, it := range items {
			lists = append(lists, append(copiedItems(lists[from]), it))
		}
	}
	return lists
}

// mixedPlan is a list of n items, most of them of names of a code, most without marks and most late as rule 8 says.
func mixedPlan(seed, n int, c impl.Code) []impl.Item {
	next := mixing(seed)
	var l []impl.Item
	for i := range n {
		it := impl.Item{Late: (2*i >= n) != (next(30) == 0)}
		for k := 0; k == 0 || k < 3 && next(3) == 0; k++ {
			name := c.Elements[next(len(c.Elements))].Name
			if next(30) == 0 {
				name = "X99"
			}
			it.Names = append(it.Names, name)
			it.Marks = append(it.Marks, max(0, next(40)-36))
		}
		l = append(l, it)
	}
	return l
}

func TestPromise4BrokenRulesAreThoseThatDoNotHold(t *testing.T) {
	codes := []impl.Code{planCode(), planCodeWith(1, 4, 2, 1, 0, 1), planCodeWith(3, 2, 1, 0, 0, 0), planCodeWith(2, 0, 0, 0, 0, 0), planCodeWith(3, 9, 9, 9, 9, 9)}
	for _, c := range codes {
		for _, l := range shortLists() {
			checkRules(t, plainTexts(l), c, l, plainBroken(c, l)...)
		}
	}
	for _, l := range append(someLists(), someProgrammes()...) {
		for _, c := range append(codes, someCodes()...) {
			checkRules(t, plainTexts(l), c, l, plainBroken(c, l)...)
		}
	}
	programmes := 0
	for seed := range 4000 {
		c := append(someCodes(), codes...)[seed%50]
		l := mixedPlan(seed, seed%15, c)
		broken := plainBroken(c, l)
		checkRules(t, plainTexts(l), c, l, broken...)
		if len(broken) == 0 {
			programmes++
		}
	}
	if programmes < 100 {
		t.Errorf("only %d programmes were looked at", programmes)
	}
}

func TestFamilyOf(t *testing.T) {
	for text, family := range map[string]int{
		"2A": 0, "3S": 0, "CSP": 1, "FCSP": 1, "STSQ": 2, "LIFT": 3, "PIV": 4, "2A+2T": 0, "2A+2T+2T": 0, // and the first name alone counts
		"2A+CSP": 0, "CSP+2A": 1, "STSQ+3T+LIFT": 2, "LIFT+3T": 3, "PIV+2A+CSP": 4,
	} {
		if f, ok := impl.FamilyOf(planCode(), plannedItem(text)); f != family || !ok {
			t.Errorf("FamilyOf %s = %d, %v", text, f, ok)
		}
	}
	if f, ok := impl.FamilyOf(planCode(), called("STSQ 2A", true, 3, 1)); f != 2 || !ok {
		t.Errorf("FamilyOf a late item with marks = %d, %v", f, ok)
	}
	for _, text := range []string{"3T", "A", "CS", "CSPA", "2", "ZZZZZ", "3T+2A", "3T+CSP+PIV", "00000"} {
		if f, ok := impl.FamilyOf(planCode(), plannedItem(text)); f != 0 || ok {
			t.Errorf("FamilyOf %s = %d, %v", text, f, ok)
		}
	}
	for what, it := range badItems() {
		if f, ok := impl.FamilyOf(planCode(), it); f != 0 || ok {
			t.Errorf("%s: FamilyOf = %d, %v", what, f, ok)
		}
	}
}

func TestFamilyCountsAndRoom(t *testing.T) {
	marked := []impl.Item{called("PIV", true, 3), called("STSQ 2A", true, 1, 1), called("LIFT", false, 2)}
	for _, w := range []struct {
		list         []impl.Item
		counts, room []int
	}{
		{nil, []int{0, 0, 0, 0, 0}, []int{4, 2, 1, 0, 1}},
		{planned("2A"), []int{1, 0, 0, 0, 0}, []int{3, 2, 1, 0, 1}},
		{planned("2A", "3A", "2T+2A", "2A+2T+2T"), []int{4, 0, 0, 0, 0}, []int{0, 2, 1, 0, 1}},
		{planned("2A", "2A", "3A", "3F", "3S"), []int{5, 0, 0, 0, 0}, []int{-1, 2, 1, 0, 1}},
		{planned("CSP", "FCSP", "PIV", "STSQ"), []int{0, 2, 1, 0, 1}, []int{4, 0, 0, 0, 0}},
		{planned("LIFT", "LIFT"), []int{0, 0, 0, 2, 0}, []int{4, 2, 1, -2, 1}},
		{planned("3T", "2A", "X", "CS"), []int{1, 0, 0, 0, 0}, []int{3, 2, 1, 0, 1}},
		{planned("3T+2A", "2A+3T", "CSP+LIFT+STSQ"), []int{1, 1, 0, 0, 0}, []int{3, 1, 1, 0, 1}},
		{slices.Repeat(planned("STSQ"), 14), []int{0, 0, 14, 0, 0}, []int{4, 2, -13, 0, 1}},
		{marked, []int{0, 0, 1, 1, 1}, []int{4, 2, 0, -1, 0}},
	} {
		if n, ok := impl.FamilyCounts(planCode(), w.list); !slices.Equal(n, w.counts) || !ok {
			t.Errorf("FamilyCounts of %s = %v, %v; want %v", plainTexts(w.list), n, ok, w.counts)
		}
		if n, ok := impl.RoomIn(planCode(), w.list); !slices.Equal(n, w.room) || !ok {
			t.Errorf("RoomIn of %s = %v, %v; want %v", plainTexts(w.list), n, ok, w.room)
		}
	}
}

// Rule 6 holds exactly where no room is negative, and counts are those of the families of all items.
func TestFamilyCountsAddUp(t *testing.T) {
	for seed := range 500 {
		c := someCodes()[seed%50]
		l := mixedPlan(seed, seed%15, c)
		want := make([]int, 5)
		for _, it := range l {
			if family, ok := impl.FamilyOf(c, it); ok {
				want[family]++
			}
		}
		counts, ok := impl.FamilyCounts(c, l)
		room, good := impl.RoomIn(c, l)
		if !slices.Equal(counts, want) || !ok || len(room) != 5 || !good {
			t.Fatalf("%s: %v, %v; %v, %v; want %v", plainTexts(l), counts, ok, room, good, want)
		}
		for family, n := range room {
			if n != c.Limits[family]-counts[family] {
				t.Errorf("%s: the room is %v, the counts are %v", plainTexts(l), room, counts)
			}
		}
		if holds, _ := impl.RuleHolds(c, l, 6); holds != (slices.Min(room) >= 0) {
			t.Errorf("%s: rule 6 is %v, the room %v", plainTexts(l), holds, room)
		}
	}
}

func TestTimesOf(t *testing.T) {
	l := []impl.Item{called("2A", false, 0), called("2A 2T", true, 1, 0), called("3A", false, 2), called("2T 2T 2A", false, 3, 0, 0), called("CSP", true, 0), called("3A", true, 3), called("X 2TT", false, 0, 0), called("2T", true, 0)}
	for name, want := range map[string][2]int{
		"2A": {3, 2}, "2T": {4, 3}, "3A": {2, 0}, "CSP": {1, 0}, "X": {1, 1}, "2TT": {1, 1}, // single, combined, in one item twice, marked, late
		"2": {0, 0}, "T": {0, 0}, "CS": {0, 0}, "0": {0, 0}, "ZZZZZ": {0, 0}, // not there, though names may begin so
	} {
		if n, m, ok := impl.TimesOf(l, name); n != want[0] || m != want[1] || !ok {
			t.Errorf("TimesOf %q = %d, %d, %v; want %v", name, n, m, ok, want)
		}
		if n, m, ok := impl.TimesOf(nil, name); n != 0 || m != 0 || !ok {
			t.Errorf("TimesOf %q in no items = %d, %d, %v", name, n, m, ok)
		}
	}
	for times := 1; times <= 3; times++ {
		full := slices.Repeat(planned(strings.Repeat("+2A", times)[1:]), 14)
		if n, m, ok := impl.TimesOf(full, "2A"); n != 14*times || m != 14*times && times > 1 || m != 0 && times == 1 || !ok {
			t.Errorf("TimesOf in 14 items with %d names = %d, %d, %v", times, n, m, ok)
		}
	}
}

// A name that is nowhere occurs 0 times, but with a string that is no name the call fails.
func TestPromise33TimesOfNoName(t *testing.T) {
	l := []impl.Item{called("2A", false, 0), called("2A 2T", true, 1, 0), called("ZZZZZ", false, 3)}
	noNames := []string{
		"", " ", "\x00", "\xff", "\u20ac", "\u0661", // nothing, or no letters and digits
		"a", "2a", "2A ", " 2A", "2A\n", "2A\x00", "2A<", "2Ae", "2A*", "2A x", "2-A", "2A+2T", // others too, such as signs and whole items
		"ABCDEF", "ZZZZZZ", "2A2A2A", strings.Repeat("A", 100000), // more than 5
	}
	for b := range 256 { // each other byte, alone, last and first
		if c := byte(b); c < '0' || c > '9' && c < 'A' || c > 'Z' {
			noNames = append(noNames, string([]byte{c}), string([]byte{'2', c}), string([]byte{c, 'A'}))
		}
	}
	for _, name := range noNames {
		for _, items := range [][]impl.Item{nil, {}, l, slices.Repeat(l[:1], 14)} {
			calm(t, "TimesOf", func() {
				if n, m, ok := impl.TimesOf(items, name); n != 0 || m != 0 || ok {
					t.Errorf("TimesOf %.20q in %d items = %d, %d, %v", name, len(items), n, m, ok)
				}
			})
		}
	}
}

func TestMarkLate(t *testing.T) {
	for _, w := range []struct {
		list   []impl.Item
		marked string
	}{
		{nil, ""},
		{[]impl.Item{called("3A", true, 0)}, "3A"},
		{[]impl.Item{called("3A", false, 1)}, "3A<"},
		{[]impl.Item{called("3A", true, 2), called("CSP", false, 0)}, "3Ae, CSP x"},
		{[]impl.Item{called("3A", false, 0), called("2T", false, 0), called("CSP", false, 0)}, "3A, 2T, CSP x"},
		{[]impl.Item{called("3A", true, 0), called("2T", true, 0), called("CSP", true, 0)}, "3A, 2T, CSP x"},
		{[]impl.Item{called("3A", true, 0), called("2T X", true, 3, 1), called("CSP", false, 0), called("9", false, 0)}, "3A, 2T*+X<, CSP x, 9 x"},
	} {
		if l, ok := impl.MarkLate(w.list); plainTexts(l) != w.marked || !ok {
			t.Errorf("MarkLate of %s = %s, %v; want %s", plainTexts(w.list), plainTexts(l), ok, w.marked)
		}
	}
	// Marks and unknown names are kept, so that this is no matter of a code.
	for _, l := range append(someLists(), shortLists()...) {
		if marked, ok := impl.MarkLate(l); !sameItems(marked, plainLate(l)) || !ok {
			t.Errorf("MarkLate of %s = %s, %v", plainTexts(l), plainTexts(marked), ok)
		}
	}
}

func TestInsertItem(t *testing.T) {
	l := planned("3A", "2T", "STSQ")
	for at, want := range []string{"CSP, 3A, 2T x, STSQ x", "3A, CSP, 2T x, STSQ x", "3A, 2T, CSP x, STSQ x", "3A, 2T, STSQ x, CSP x"} {
		for _, late := range []bool{false, true} {
			if x, ok := impl.InsertItem(planCode(), l, at, called("CSP", late, 0)); plainTexts(x) != want || !ok {
				t.Errorf("InsertItem at %d = %s, %v; want %s", at, plainTexts(x), ok, want)
			}
		}
	}
	for _, at := range append([]int{-3, 4, 5, 14}, wild...) {
		if at < 0 || at > 3 {
			if x, ok := impl.InsertItem(planCode(), l, at, plannedItem("CSP")); !isNoProgramme(x, ok) {
				t.Errorf("InsertItem at %d = %s, %v", at, plainTexts(x), ok)
			}
		}
	}
}

func TestInsertItemOnlyIntoProgrammes(t *testing.T) {
	for what, w := range map[string]struct {
		list []impl.Item
		item impl.Item
	}{
		"into nothing":         {nil, plannedItem("2A")},
		"into unknown names":   {planned("3T"), plannedItem("2A")},
		"into marks":           {[]impl.Item{called("3A", false, 1)}, plannedItem("2A")},
		"into a bad list":      {planned("3A", "2A+CSP"), plannedItem("2T")},
		"into too many spins":  {planned("CSP", "CSP", "FCSP"), plannedItem("2T")},
		"into wrong lates":     {[]impl.Item{called("3A", true, 0)}, plannedItem("2A")},
		"into no lates":        {changedPlan(planned("3A", "CSP"), func(l []impl.Item) { l[1].Late = false }), plannedItem("2A")},
		"what excuses it then": {planned("3A", "3A"), plannedItem("2T+2A")},
		"an unknown name":      {planned("3A"), plannedItem("3T")},
		"a mark":               {planned("3A"), called("CSP", false, 1)},
		"a combined spin":      {planned("3A"), plannedItem("2A+CSP")},
		"a fourth combined":    {planned("2A+2T", "3A+3F", "3S+2A"), plannedItem("2T+3A")},
		"a second triple":      {planned("2A+2T+3A"), plannedItem("3F+3S+2A")},
		"a fifth jump":         {planned("2A", "2T", "3A", "3F"), plannedItem("3S")},
		"a lift":               {planned("2A"), plannedItem("LIFT")},
		"a third one":          {planned("2A+2T", "2A"), plannedItem("2A")},
		"a second single":      {planned("2A"), plannedItem("2A")},
		"a triple of one name": {planned("2T"), plannedItem("2A+2A+2A")},
	} {
		for at := range len(w.list) + 1 {
			if x, ok := impl.InsertItem(planCode(), w.list, at, w.item); !isNoProgramme(x, ok) {
				t.Errorf("%s: InsertItem at %d = %s, %v", what, at, plainTexts(x), ok)
			}
		}
	}
	for what, it := range badItems() {
		for at := range 4 {
			if x, ok := impl.InsertItem(planCode(), planned("3A", "2T", "STSQ"), at, it); !isNoProgramme(x, ok) {
				t.Errorf("%s: InsertItem at %d = %s, %v", what, at, plainTexts(x), ok)
			}
		}
	}
}

// A list of MaxItems is as long as one may be.
func TestInsertItemUpToTheMost(t *testing.T) {
	var l []impl.Item
	for i := range 24 {
		it := plannedItem(string(rune('A' + i)))
		before := copiedItems(l)
		if i == 0 {
			l = []impl.Item{it}
			continue
		}
		x, ok := impl.InsertItem(wideCode(), l, i/2, it)
		if i >= 14 {
			if !isNoProgramme(x, ok) {
				t.Errorf("%d items: %s, %v", i+1, plainTexts(x), ok)
			}
			continue
		}
		if l = x; !ok || !sameItems(x, plainLate(slices.Insert(before, i/2, it))) {
			t.Errorf("%d items: %s, %v", i+1, plainTexts(x), ok)
		}
	}
	if len(l) != 14 {
		t.Errorf("%d items", len(l))
	}
}

func TestDropItem(t *testing.T) {
	l := planned("3A", "2T", "STSQ", "2A+2T")
	for at, want := range []string{"2T, STSQ, 2A+2T x", "3A, STSQ, 2A+2T x", "3A, 2T, 2A+2T x", "3A, 2T, STSQ x"} {
		if x, ok := impl.DropItem(planCode(), l, at); plainTexts(x) != want || !ok {
			t.Errorf("DropItem at %d = %s, %v; want %s", at, plainTexts(x), ok, want)
		}
	}
	for _, at := range append([]int{-4, -3, 4, 5, 14}, wild...) {
		if at < 0 || at > 3 {
			if x, ok := impl.DropItem(planCode(), l, at); !isNoProgramme(x, ok) {
				t.Errorf("DropItem at %d = %s, %v", at, plainTexts(x), ok)
			}
		}
	}
	if x, ok := impl.DropItem(planCode(), planned("CSP", "2A"), 0); plainTexts(x) != "2A" || !ok {
		t.Errorf("DropItem of two = %s, %v", plainTexts(x), ok)
	}
}

func TestDropItemOnlyFromProgrammes(t *testing.T) {
	for what, w := range map[string]struct {
		list []impl.Item
		at   int
	}{
		"from nothing":           {nil, 0},
		"an unknown name":        {planned("2A", "3T"), 1},
		"a mark":                 {[]impl.Item{called("3A", false, 0), called("2A", true, 2)}, 1},
		"a combined spin":        {planned("2A", "2A+CSP"), 1},
		"a fourth combined":      {planned("2A+2T", "3A+3F", "3S+2A", "2T+3A"), 0},
		"a second triple":        {planned("2A+2T+3A", "3F+3S+2A"), 0},
		"a fifth jump":           {planned("2A", "2T", "3A", "3F", "3S"), 4},
		"a lift":                 {planned("LIFT", "2A"), 0},
		"a second single":        {planned("2A", "2A"), 0},
		"from wrong lates":       {changedPlan(planned("2A", "2T", "CSP"), func(l []impl.Item) { l[0].Late = true }), 0},
		"from lates that fit it": {changedPlan(planned("CSP", "2A", "2T"), func(l []impl.Item) { l[1].Late, l[2].Late = true, false }), 2},
	} {
		if x, ok := impl.DropItem(planCode(), w.list, w.at); !isNoProgramme(x, ok) {
			t.Errorf("%s: DropItem = %s, %v", what, plainTexts(x), ok)
		}
	}
}

// These lists are programmes, but not without the item.
func TestDropItemThatIsNeeded(t *testing.T) {
	often := planCodeWith(3, 4, 2, 1, 0, 1)
	for what, w := range map[string]struct {
		code impl.Code
		list []impl.Item
		at   int
	}{
		"the only item":                {planCode(), planned("2A"), 0},
		"the only item, combined":      {planCode(), planned("2A+2T+3A"), 0},
		"what excuses two others":      {often, planned("2A+2T", "2A", "2A"), 0},
		"what excuses them at the end": {often, planned("2A", "CSP", "2A", "2T+2A"), 3},
	} {
		checkRules(t, what, w.code, w.list)
		if x, ok := impl.DropItem(w.code, w.list, w.at); !isNoProgramme(x, ok) {
			t.Errorf("%s: DropItem = %s, %v", what, plainTexts(x), ok)
		}
	}
}

func TestMoveItem(t *testing.T) {
	l := planned("3A", "2T", "STSQ", "2A+2T", "CSP")
	names := []string{"3A", "2T", "STSQ", "2A+2T", "CSP"}
	for from := range 5 {
		for to := range 5 {
			rest := slices.Delete(slices.Clone(names), from, from+1)
			want := planned(slices.Insert(rest, to, names[from])...)
			if x, ok := impl.MoveItem(planCode(), l, from, to); !sameItems(x, want) || !ok {
				t.Errorf("MoveItem from %d to %d = %s, %v", from, to, plainTexts(x), ok)
			}
		}
	}
	for from, want := range [][]string{{"3A, 2T, STSQ x", "2T, 3A, STSQ x", "2T, STSQ, 3A x"}, {"2T, 3A, STSQ x", "3A, 2T, STSQ x", "3A, STSQ, 2T x"}, {"STSQ, 3A, 2T x", "3A, STSQ, 2T x", "3A, 2T, STSQ x"}} {
		for to, text := range want {
			if x, ok := impl.MoveItem(planCode(), planned("3A", "2T", "STSQ"), from, to); plainTexts(x) != text || !ok {
				t.Errorf("MoveItem from %d to %d = %s, %v; want %s", from, to, plainTexts(x), ok, text)
			}
		}
	}
	if x, ok := impl.MoveItem(planCode(), planned("3A"), 0, 0); plainTexts(x) != "3A" || !ok {
		t.Errorf("MoveItem of one item = %s, %v", plainTexts(x), ok)
	}
	for _, bad := range append([]int{-5, -4, 5, 6, 14}, wild...) {
		for good := range 5 {
			if bad < 0 || bad >= 5 {
				x, ok := impl.MoveItem(planCode(), l, bad, good)
				y, fine := impl.MoveItem(planCode(), l, good, bad)
				if !isNoProgramme(x, ok) || !isNoProgramme(y, fine) {
					t.Errorf("MoveItem with %d and %d = %s, %v; %s, %v", bad, good, plainTexts(x), ok, plainTexts(y), fine)
				}
			}
		}
	}
}

func TestMoveItemOnlyInProgrammes(t *testing.T) {
	for _, l := range append(shortLists(), slices.Repeat(planned("2A"), 14)) {
		broken := len(plainBroken(planCode(), l)) > 0
		for from := range len(l) + 1 {
			for to := range len(l) + 1 {
				x, ok := impl.MoveItem(planCode(), l, from, to)
				if good := !broken && from < len(l) && to < len(l); ok != good || !good && len(x) > 0 {
					t.Errorf("%s: MoveItem from %d to %d = %s, %v", plainTexts(l), from, to, plainTexts(x), ok)
				}
			}
		}
	}
}

// checkInsertions inserts an item at each place, with the plain result as the measure, and drops it again.
func checkInsertions(t *testing.T, c impl.Code, l []impl.Item, it impl.Item) {
	t.Helper()
	is := len(plainBroken(c, l)) == 0
	for at := range len(l) + 1 {
		want := plainLate(slices.Insert(copiedItems(l), at, it))
		good := is && len(want) <= 14 && len(plainBroken(c, want)) == 0
		x, ok := impl.InsertItem(c, l, at, it)
		if ok != good || good && !sameItems(x, want) || !good && len(x) > 0 {
			t.Fatalf("%s: InsertItem of %s at %d = %s, %v", plainTexts(l), plainText(it), at, plainTexts(x), ok)
		}
		if !ok {
			continue
		}
		if y, ok := impl.DropItem(c, x, at); !sameItems(y, l) || !ok {
			t.Errorf("%s: %s is inserted at %d, then DropItem = %s, %v", plainTexts(l), plainText(it), at, plainTexts(y), ok)
		}
	}
}

// checkDrops drops each item, with the plain result as the measure, and inserts it again.
func checkDrops(t *testing.T, c impl.Code, l []impl.Item) {
	t.Helper()
	is := len(plainBroken(c, l)) == 0
	for at, it := range l {
		want := plainLate(slices.Delete(copiedItems(l), at, at+1))
		good := is && len(plainBroken(c, want)) == 0
		x, ok := impl.DropItem(c, l, at)
		if ok != good || good && !sameItems(x, want) || !good && len(x) > 0 {
			t.Fatalf("%s: DropItem at %d = %s, %v", plainTexts(l), at, plainTexts(x), ok)
		}
		if !ok {
			continue
		}
		if y, ok := impl.InsertItem(c, x, at, it); !sameItems(y, l) || !ok {
			t.Errorf("%s: item %d is dropped, then InsertItem = %s, %v", plainTexts(l), at, plainTexts(y), ok)
		}
	}
}

func TestPromise4WhatIsInsertedCanBeDroppedAgain(t *testing.T) {
	items := append(planned("2A", "2T", "3S", "CSP", "STSQ", "LIFT", "3T", "2A+2T", "3F+3F", "2A+2T+3S", "2A+CSP"), called("2T", false, 1), called("PIV", true, 0))
	for _, l := range append(shortLists(), someProgrammes()...) {
		checkDrops(t, planCode(), l)
		for _, it := range items {
			checkInsertions(t, planCode(), l, it)
		}
	}
	inserted := 0
	for seed := range 2000 {
		c := someCodes()[seed%50]
		l := mixedPlan(seed, seed%15, c)
		checkDrops(t, c, l)
		for _, it := range mixedPlan(seed+5000, 5, c) {
			checkInsertions(t, c, l, it)
			if _, ok := impl.InsertItem(c, l, 0, it); ok {
				inserted++
			}
		}
	}
	if inserted < 100 {
		t.Errorf("only %d items were inserted", inserted)
	}
}

func TestMovedItemsAreMovedBack(t *testing.T) {
	for _, l := range someProgrammes() {
		for from := range l {
			for to := range l {
				x, ok := impl.MoveItem(planCode(), l, from, to)
				if is, _ := impl.IsProgramme(planCode(), x); !is || !ok {
					t.Errorf("%s: MoveItem from %d to %d = %s, %v", plainTexts(l), from, to, plainTexts(x), ok)
				}
				if y, ok := impl.MoveItem(planCode(), x, to, from); !sameItems(y, l) || !ok {
					t.Errorf("%s: MoveItem from %d to %d and back = %s, %v", plainTexts(l), from, to, plainTexts(y), ok)
				}
			}
		}
	}
}

// checkNoCalls checks that all functions with a code and a list fail.
func checkNoCalls(t *testing.T, what string, c impl.Code, l []impl.Item) {
	t.Helper()
	calm(t, what, func() {
		for rule := range 10 {
			if holds, ok := impl.RuleHolds(c, l, rule); holds || ok {
				t.Errorf("%s: RuleHolds of %d = %v, %v", what, rule, holds, ok)
			}
		}
		if broken, ok := impl.BrokenRules(c, l); len(broken) != 0 || ok {
			t.Errorf("%s: BrokenRules = %v, %v", what, broken, ok)
		}
		if is, ok := impl.IsProgramme(c, l); is || ok {
			t.Errorf("%s: IsProgramme = %v, %v", what, is, ok)
		}
		if n, ok := impl.FamilyCounts(c, l); len(n) != 0 || ok {
			t.Errorf("%s: FamilyCounts = %v, %v", what, n, ok)
		}
		if n, ok := impl.RoomIn(c, l); len(n) != 0 || ok {
			t.Errorf("%s: RoomIn = %v, %v", what, n, ok)
		}
		for at := range min(len(l), 16) {
			if x, ok := impl.InsertItem(c, l, at, plannedItem("2T")); !isNoProgramme(x, ok) {
				t.Errorf("%s: InsertItem at %d = %s, %v", what, at, plainTexts(x), ok)
			}
			// What is wrong must not be dropped and so made good.
			if x, ok := impl.DropItem(c, l, at); !isNoProgramme(x, ok) {
				t.Errorf("%s: DropItem at %d = %s, %v", what, at, plainTexts(x), ok)
			}
			if x, ok := impl.MoveItem(c, l, at, 0); !isNoProgramme(x, ok) {
				t.Errorf("%s: MoveItem from %d = %s, %v", what, at, plainTexts(x), ok)
			}
		}
	})
}

func TestPromise33ProgrammesWithBadCodes(t *testing.T) {
	bad := badCodes()
	bad["zero"] = impl.Code{}
	for what, c := range bad {
		before := copiedCode(c)
		for _, l := range [][]impl.Item{nil, planned("3A"), planned("3A", "2T", "STSQ"), planned("A", "B"), mixedItems(1, 14)} {
			checkNoCalls(t, what, c, l)
		}
		calm(t, what, func() {
			for _, text := range []string{"3A", "STSQ", "A", "X"} {
				if f, ok := impl.FamilyOf(c, plannedItem(text)); f != 0 || ok {
					t.Errorf("%s: FamilyOf %s = %d, %v", what, text, f, ok)
				}
			}
			if x, ok := impl.InsertItem(c, nil, 0, plannedItem("3A")); !isNoProgramme(x, ok) {
				t.Errorf("%s: InsertItem into nothing = %s, %v", what, plainTexts(x), ok)
			}
		})
		if !reflect.DeepEqual(copiedCode(c), before) {
			t.Errorf("%s: the code is changed", what)
		}
	}
}

// badPlans are bad lists, some of which are programmes for wideCode but for one item, or for their length.
func badPlans() map[string][]impl.Item {
	bad := badLists()
	var long []string
	for i := range 15 {
		long = append(long, string(rune('A'+i)))
	}
	bad["15 items that differ"] = planned(long...)
	for what, it := range badItems() {
		bad[what+", among good ones"] = plainLate(append(planned("A", "B"), it))
		bad[what+", before good ones"] = plainLate(append([]impl.Item{it}, planned("A", "B")...))
	}
	return bad
}

func TestPromise33ProgrammesOfBadLists(t *testing.T) {
	for what, l := range badPlans() {
		before := copiedItems(l)
		checkNoCalls(t, what, wideCode(), l)
		checkNoCalls(t, what+", zero code", impl.Code{}, l)
		calm(t, what, func() {
			for _, name := range []string{"", "A", "3A", "X"} {
				if n, m, ok := impl.TimesOf(l, name); n != 0 || m != 0 || ok {
					t.Errorf("%s: TimesOf %q = %d, %d, %v", what, name, n, m, ok)
				}
			}
			if x, ok := impl.MarkLate(l); !isNoProgramme(x, ok) {
				t.Errorf("%s: MarkLate = %d items, %v", what, len(x), ok)
			}
		})
		if !sameItems(l, before) {
			t.Errorf("%s: the list is changed", what)
		}
	}
}

func TestPromise33ProgrammesAcceptAllArguments(t *testing.T) {
	for _, a := range wild {
		for _, b := range wild {
			calm(t, "calls with wild numbers", func() {
				l := planned("3A", "2T", "STSQ")
				impl.RuleHolds(planCodeWith(a, b, 2, 1, 0, 1), l, b)
				impl.RoomIn(planCodeWith(2, 4, 2, 1, a, b), l)
				impl.InsertItem(planCode(), l, a, called("2A", false, b))
				impl.InsertItem(planCode(), nil, a, impl.Item{})
				impl.DropItem(planCode(), l, a)
				impl.DropItem(planCode(), nil, a)
				impl.MoveItem(planCode(), nil, a, b)
				x, ok := impl.MoveItem(planCode(), l, a, b)
				if good := a >= 0 && a < 3 && b >= 0 && b < 3; ok != good || (len(x) == 3) != good {
					t.Errorf("MoveItem from %d to %d = %s, %v", a, b, plainTexts(x), ok)
				}
			})
		}
	}
	for _, s := range []string{"", "\x00", "\xff", "\u20ac", strings.Repeat("A", 100000)} {
		calm(t, "calls with wild strings", func() {
			impl.TimesOf(someItems(), s)
			impl.FamilyOf(planCode(), impl.Item{Names: []string{s}, Marks: []int{0}})
			impl.BrokenRules(namedCode(s), planned("3A"))
			impl.BrokenRules(planCode(), []impl.Item{{Names: []string{s, s}, Marks: []int{0, 0}}})
		})
	}
}

func TestPromise33ProgrammesAreLeftAsTheyAre(t *testing.T) {
	lists := append(shortLists()[:300], someProgrammes()...)
	for _, original := range append(lists, someLists()...) {
		c, sameCode := sparedCode(planCode())
		l, same := sparedItems(original)
		items, sameItem := sparedItems(planned("FCSP"))
		for rule := range 10 {
			impl.RuleHolds(c, l, rule)
		}
		broken, _ := impl.BrokenRules(c, l)
		spoilNumbers(broken)
		impl.IsProgramme(c, l)
		impl.FamilyOf(c, items[0])
		counts, _ := impl.FamilyCounts(c, l)
		spoilNumbers(counts)
		room, _ := impl.RoomIn(c, l)
		spoilNumbers(room)
		impl.TimesOf(l, "2A")
		marked, _ := impl.MarkLate(l)
		spoilItems(marked)
		for at := range len(l) + 1 {
			longer, _ := impl.InsertItem(c, l, at, items[0])
			spoilItems(longer)
			shorter, _ := impl.DropItem(c, l, at)
			spoilItems(shorter)
			for to := range l {
				moved, _ := impl.MoveItem(c, l, at, to)
				spoilItems(moved)
			}
		}
		if !sameCode() || !same() || !sameItem() {
			t.Errorf("%s is changed, or the code or the item", plainTexts(original))
		}
	}
}

func TestPromise33ResultsOfProgrammesShareNothing(t *testing.T) {
	// All names and all marks of the arguments are the same memory.
	shared := func() []impl.Item {
		names, marks := []string{"2A"}, []int{0}
		return []impl.Item{{Names: names, Marks: marks}, {Names: names, Marks: marks, Late: true}}
	}
	one := func() []impl.Item {
		marks := []int{0}
		return []impl.Item{{Names: []string{"2A"}, Marks: marks}, {Names: []string{"CSP"}, Marks: marks}, {Names: []string{"STSQ"}, Marks: marks, Late: true}}
	}
	item := func() impl.Item { return one()[0] }
	for what, call := range map[string]func() []impl.Item{
		"MarkLate":                  func() []impl.Item { l, _ := impl.MarkLate(planned("2A+2T", "CSP", "CSP")); return l },
		"MarkLate of shared ones":   func() []impl.Item { l, _ := impl.MarkLate(shared()); return l },
		"InsertItem":                func() []impl.Item { l, _ := impl.InsertItem(planCode(), planned("2A+2T", "CSP"), 1, item()); return l },
		"InsertItem of shared ones": func() []impl.Item { l, _ := impl.InsertItem(planCode(), one(), 3, plannedItem("2T")); return l },
		"DropItem":                  func() []impl.Item { l, _ := impl.DropItem(planCode(), planned("2A", "CSP", "2T"), 1); return l },
		"DropItem of shared ones":   func() []impl.Item { l, _ := impl.DropItem(planCode(), one(), 0); return l },
		"MoveItem":                  func() []impl.Item { l, _ := impl.MoveItem(planCode(), planned("2A", "CSP", "2T"), 2, 0); return l },
		"MoveItem of shared ones":   func() []impl.Item { l, _ := impl.MoveItem(planCode(), one(), 0, 2); return l },
	} {
		checkOwnMemory(t, what, call)
	}
	for what, call := range map[string]func() []int{
		"BrokenRules":  func() []int { l, _ := impl.BrokenRules(planCode(), someItems()); return l },
		"FamilyCounts": func() []int { l, _ := impl.FamilyCounts(planCode(), someItems()); return l },
		"RoomIn":       func() []int { l, _ := impl.RoomIn(planCode(), someItems()); return l },
	} {
		kept := slices.Clone(call())
		spoilNumbers(call())
		if !slices.Equal(call(), kept) || len(kept) == 0 {
			t.Errorf("%s is kept: %v, %v", what, call(), kept)
		}
	}
}

// What is done to the arguments after a call must not reach its result.
func TestPromise33ProgrammesKeepNoArguments(t *testing.T) {
	l, it := planned("3A", "2T+2A", "STSQ"), plannedItem("CSP")
	var results [][]impl.Item
	keep := func(x []impl.Item, ok bool) {
		if !ok {
			t.Error("a call fails")
		}
		results = append(results, x)
	}
	keep(impl.MarkLate(l))
	keep(impl.InsertItem(planCode(), l, 1, it))
	keep(impl.DropItem(planCode(), l, 0))
	keep(impl.MoveItem(planCode(), l, 1, 1))
	spoilItems(l)
	spoilItem(it)
	for i, want := range []string{"3A, 2T+2A, STSQ x", "3A, CSP, 2T+2A x, STSQ x", "2T+2A, STSQ x", "3A, 2T+2A, STSQ x"} {
		if plainTexts(results[i]) != want {
			t.Errorf("result %d is %s now", i, plainTexts(results[i]))
		}
	}
}
