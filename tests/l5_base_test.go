package tests

import (
	"fmt"
	"reflect"
	"slices"
	"strings"
	"testing"

	"loop.example/g00912/impl"
)

// baseCode has bases that leave a remainder when they are divided, and ones that do not; no element is a lift.
func baseCode() impl.Code {
	return impl.Code{
		Elements: []impl.Element{
			{Name: "2A", Base: 333}, {Name: "2T", Base: 130}, {Name: "3A", Base: 801}, {Name: "CSP", Family: 1, Base: 325},
			{Name: "PIV", Family: 4, Base: 7}, {Name: "STSQ", Family: 2, Base: 1},
		},
		Limits: []int{9, 9, 9, 9, 9}, Repeats: 2, Bonus: 10, Keeps: 75, Fall: 100,
	}
}

func baseCodeWith(repeats, bonus, keeps int) impl.Code {
	c := baseCode()
	c.Repeats, c.Bonus, c.Keeps = repeats, bonus, keeps
	return c
}

// oneElement is a code of one element, X, that is a step.
func oneElement(base, repeats, bonus, keeps int) impl.Code {
	return impl.Code{Elements: []impl.Element{{Name: "X", Family: 2, Level: 1, Base: base}}, Limits: make([]int, 5), Repeats: repeats, Bonus: bonus, Keeps: keeps}
}

// knownItems is a list of n items of names of a code, few different ones in a short list, with marks, late or not.
func knownItems(seed, n int, c impl.Code) []impl.Item {
	next := mixing(seed)
	var l []impl.Item
	for range n {
		it := impl.Item{Late: next(2) == 1}
		for range 1 + next(3) {
			it.Names = append(it.Names, c.Elements[next(min(len(c.Elements), 1+n/2))].Name)
			it.Marks = append(it.Marks, next(4))
		}
		l = append(l, it)
	}
	return l
}

// knownLists calls a function with many codes and lists that are known to them.
func knownLists(do func(c impl.Code, l []impl.Item)) {
	codes := append(someCodes(), baseCode(), baseCodeWith(1, 0, 50), baseCodeWith(3, 20, 100), oneElement(1, 1, 3, 99), oneElement(2000, 2, 20, 67))
	for i, c := range codes {
		for n := range 15 {
			do(c, knownItems(100*i+n, n, c))
			do(c, knownItems(100*i+n+50, n, c))
		}
	}
}

// plainWorth takes from a base what a mark costs, piece by piece.
func plainWorth(c impl.Code, name string, mark int) int {
	base := c.Elements[slices.IndexFunc(c.Elements, func(x impl.Element) bool { return x.Name == name })].Base
	percent := []int{100, c.Keeps, 90, 0}[mark]
	return (base*percent - base*percent%100) / 100
}

func plainFull(c impl.Code, it impl.Item) int {
	full := 0
	for i, name := range it.Names {
		full += plainWorth(c, name, it.Marks[i])
	}
	if it.Late {
		whole := full * (100 + c.Bonus)
		full = whole / 100
		if whole%100 >= 50 {
			full++
		}
	}
	return full
}

func plainRepeats(l []impl.Item, k int) int {
	repeats := 0
	for i := range k {
		if l[i].Names[0] == l[k].Names[0] && l[i].Marks[0] < 3 {
			repeats++
		}
	}
	return repeats
}

func plainBase(c impl.Code, l []impl.Item, k int) int {
	full, over := plainFull(c, l[k]), plainRepeats(l, k)-c.Repeats
	if over > 0 {
		return 0
	}
	if over == 0 {
		return (7*full - 7*full%10) / 10
	}
	return full
}

func plainBases(c impl.Code, l []impl.Item) []int {
	var bases []int
	for k := range l {
		bases = append(bases, plainBase(c, l, k))
	}
	return bases
}

// unmarked returns a copy of a list without marks.
func unmarked(l []impl.Item) []impl.Item {
	l = copiedItems(l)
	for _, it := range l {
		clear(it.Marks)
	}
	return l
}

func sumOf(l []int) int {
	sum := 0
	for _, n := range l {
		sum += n
	}
	return sum
}

func checkBases(t *testing.T, c impl.Code, l []impl.Item, want ...int) {
	t.Helper()
	if bases, ok := impl.BaseValues(c, l); !slices.Equal(bases, want) || !ok {
		t.Errorf("BaseValues of %s = %v, %v; want %v", plainTexts(l), bases, ok, want)
	}
	for k, base := range want {
		if n, ok := impl.ItemBase(c, l, k); n != base || !ok {
			t.Errorf("ItemBase of %s, item %d = %d, %v; want %d", plainTexts(l), k, n, ok, base)
		}
	}
	if sum, ok := impl.ProgrammeBase(c, l); sum != sumOf(want) || !ok {
		t.Errorf("ProgrammeBase of %s = %d, %v; want %d", plainTexts(l), sum, ok, sumOf(want))
	}
}

func TestElementWorth(t *testing.T) {
	for _, w := range []struct {
		name string
		// The worths with no mark, down, edge and void.
		worths [4]int
	}{
		{"2A", [4]int{333, 249, 299, 0}}, {"2T", [4]int{130, 97, 117, 0}}, {"3A", [4]int{801, 600, 720, 0}},
		{"CSP", [4]int{325, 243, 292, 0}}, {"PIV", [4]int{7, 5, 6, 0}}, {"STSQ", [4]int{1, 0, 0, 0}},
	} {
		for mark, worth := range w.worths {
			if n, ok := impl.ElementWorth(baseCode(), w.name, mark); n != worth || !ok {
				t.Errorf("ElementWorth of %s with the mark %d = %d, %v; want %d", w.name, mark, n, ok, worth)
			}
		}
	}
	if n, ok := impl.ElementWorth(oneElement(130, 1, 10, 70), "X", impl.MkDown); n != 91 || !ok {
		t.Errorf("the example has the worth %d, %v", n, ok)
	}
}

// The codes differ in nothing else, so that each base meets each percent.
func TestElementWorthOfEachBase(t *testing.T) {
	for base := 1; base <= 2000; base++ {
		for keeps := 50; keeps <= 100; keeps++ {
			c := oneElement(base, 1, 20, keeps)
			if n, ok := impl.ElementWorth(c, "X", impl.MkDown); 100*n > base*keeps || 100*n <= base*keeps-100 || !ok {
				t.Errorf("%d percent of %d = %d, %v", keeps, base, n, ok)
			}
		}
		c := oneElement(base, 3, 0, 50)
		none, ok := impl.ElementWorth(c, "X", impl.MkNone)
		edge, good := impl.ElementWorth(c, "X", impl.MkEdge)
		void, fine := impl.ElementWorth(c, "X", impl.MkVoid)
		if none != base || 10*edge > 9*base || 10*edge <= 9*base-10 || void != 0 || !ok || !good || !fine {
			t.Errorf("the base %d: %d, %v; edge %d, %v; void %d, %v", base, none, ok, edge, good, void, fine)
		}
	}
}

func TestElementWorthThatIsNotThere(t *testing.T) {
	for _, name := range []string{"", "2", "A", "2AA", "2T ", "3T", "2a", "CS", "CSPA", "ZZZZZ", "0", "2A<", "2A+2T", "ABCDEF", "\x00", "\xff"} {
		for mark := range 4 {
			if n, ok := impl.ElementWorth(baseCode(), name, mark); n != 0 || ok {
				t.Errorf("ElementWorth of %q with the mark %d = %d, %v", name, mark, n, ok)
			}
		}
	}
	for _, mark := range append([]int{-3, 4, 5, 255, 256, 257}, wild...) {
		if mark < 0 || mark > 3 {
			if n, ok := impl.ElementWorth(baseCode(), "2A", mark); n != 0 || ok {
				t.Errorf("ElementWorth with the mark %d = %d, %v", mark, n, ok)
			}
		}
	}
}

// knownAndOther are lists with whether baseCode knows them.
func knownAndOther() map[bool][][]impl.Item {
	return map[bool][][]impl.Item{
		true: {
			nil, {}, planned("2A"), planned("STSQ"), planned("2A", "2A", "2A"), planned("2A+2T", "3A+2A+3A"), planned("CSP+2A", "PIV+STSQ+PIV"),
			{called("3A", true, 3), called("CSP PIV", true, 1, 2)}, slices.Repeat(planned("PIV+2A+2T"), 14), planned("2A", "2T", "3A", "CSP", "PIV", "STSQ"),
		},
		false: {
			planned("3T"), planned("2A+3T"), planned("3T+2A"), planned("2A+2T+3T"), planned("2A+3T+2T"), planned("3T+4T+5T"), planned("2A", "3T"), planned("3T", "2A"),
			planned("2A", "2T", "3A", "CSP", "PIV", "STSQ", "0"), planned("3T", "3T", "3T"), planned("2"), planned("2AA"), planned("A"), planned("Z"), planned("ZZZZZ"),
			{called("3T", false, 3)}, {called("2A", false, 0), called("2A 3T", true, 0, 3)}, append(slices.Repeat(planned("2A"), 13), plannedItem("2A+2A+3T")),
		},
	}
}

// otherItems are items that are not valid or that baseCode does not know.
func otherItems() map[string]impl.Item {
	items := badItems()
	for _, text := range []string{"3T", "2", "2AA", "3T+2A", "2A+3T", "2A+2T+3T", "2A+3T+2T", "3T+2A+2T", "3T+3T", "LIFT", "ZZZZZ"} {
		items[text] = plannedItem(text)
	}
	items["late"], items["void"] = called("2A 3T", true, 0, 0), called("2A 3T", false, 0, 3)
	return items
}

// firstElement is an item with the name of the first element of a code, which may be bad.
func firstElement(c impl.Code) impl.Item {
	name := "2T"
	if len(c.Elements) > 0 {
		name = c.Elements[0].Name
	}
	return impl.Item{Names: []string{name}, Marks: []int{0}}
}

// listsForBadCode are valid lists, if the name of an item is one.
func listsForBadCode(it impl.Item) [][]impl.Item {
	return [][]impl.Item{nil, {it}, {it, it}, planned("3A"), mixedItems(1, 14)}
}

// badListsWithKnown are lists that are not valid, some with items that wideCode knows beside bad ones.
func badListsWithKnown() map[string][]impl.Item {
	bad := badLists()
	bad["15 known items"] = slices.Repeat(planned("A"), 15)
	for what, it := range badItems() {
		bad[what+", among known ones"] = append(planned("A", "B"), it)
		bad[what+", before known ones"] = append([]impl.Item{it}, planned("A", "B")...)
	}
	return bad
}

func TestKnowsItems(t *testing.T) {
	for want, lists := range knownAndOther() {
		for _, l := range lists {
			if known, ok := impl.KnowsItems(baseCode(), l); known != want || !ok {
				t.Errorf("KnowsItems of %s = %v, %v", plainTexts(l), known, ok)
			}
		}
	}
	for _, c := range someCodes() {
		for _, l := range append(someLists(), knownItems(len(c.Elements), 14, c)) {
			want := true
			for _, it := range l {
				for _, name := range it.Names {
					want = want && slices.ContainsFunc(c.Elements, func(x impl.Element) bool { return x.Name == name })
				}
			}
			if known, ok := impl.KnowsItems(c, l); known != want || !ok {
				t.Errorf("%s: KnowsItems of %s = %v, %v", namesOf(c), plainTexts(l), known, ok)
			}
		}
	}
}

func TestItemFamily(t *testing.T) {
	for text, family := range map[string]int{
		"2A": 0, "3A": 0, "CSP": 1, "STSQ": 2, "PIV": 4, "2A+2T": 0, "2A+CSP": 0, "CSP+2A": 1, "STSQ+PIV+2A": 2, "PIV+STSQ+CSP": 4, // the first name alone counts
	} {
		if f, ok := impl.ItemFamily(baseCode(), plannedItem(text)); f != family || !ok {
			t.Errorf("ItemFamily of %s = %d, %v", text, f, ok)
		}
	}
	if f, ok := impl.ItemFamily(planCode(), called("LIFT 2A", true, 3, 1)); f != 3 || !ok {
		t.Errorf("ItemFamily of a late item with marks = %d, %v", f, ok)
	}
}

func TestFullBase(t *testing.T) {
	for _, w := range []struct {
		item impl.Item
		full int
	}{
		{called("2A", false, 0), 333}, {called("2A", false, 1), 249}, {called("2A", false, 2), 299}, {called("2A", false, 3), 0},
		{called("2A 2T", false, 0, 0), 463}, {called("2T 2A", false, 0, 0), 463}, {called("2A 2T", false, 1, 2), 366}, {called("2A 2T", false, 3, 0), 130},
		{called("2A 2T 3A", false, 0, 0, 0), 1264}, {called("2A 2T 3A", false, 1, 1, 1), 946}, {called("2A 2T 3A", false, 3, 3, 2), 720}, {called("CSP CSP CSP", false, 1, 0, 2), 860},
		// Late, with the bonus of the sum: 366.3, 273.9, 328.9, 0, 509.3, 402.6, 1390.4, 357.5 up, 267.3, 7.7, 1.1, 5.5 up and 16.5 up.
		{called("2A", true, 0), 366}, {called("2A", true, 1), 274}, {called("2A", true, 2), 329}, {called("2A", true, 3), 0},
		{called("2A 2T", true, 0, 0), 509}, {called("2A 2T", true, 1, 2), 403}, {called("2A 2T 3A", true, 0, 0, 0), 1390},
		{called("CSP", true, 0), 358}, {called("CSP", true, 1), 267}, {called("PIV", true, 0), 8}, {called("STSQ", true, 0), 1},
		{called("PIV", true, 1), 6}, {called("PIV PIV STSQ", true, 0, 0, 0), 17},
	} {
		if n, ok := impl.FullBase(baseCode(), w.item); n != w.full || !ok {
			t.Errorf("FullBase of %s = %d, %v; want %d", plainText(w.item), n, ok, w.full)
		}
	}
	c := oneElement(130, 1, 10, 70)
	if n, ok := impl.FullBase(c, called("X", true, 0)); n != 143 || !ok {
		t.Errorf("the example has the full base %d, %v", n, ok)
	}
}

// Each bonus with each base: the bonus is rounded once for the whole item, halves up.
func TestFullBaseOfLateItems(t *testing.T) {
	halves := 0
	for bonus := range 21 {
		for base := 1; base <= 2000; base += 1 + bonus%2 {
			c := oneElement(base, 1, bonus, 50)
			for names, text := range []string{"X", "X X", "X X X"} {
				sum := (names + 1) * base
				n, ok := impl.FullBase(c, called(text, true, make([]int, names+1)...))
				// The result is in (exact - 1/2, exact + 1/2], in hundredths of it.
				exact := sum * (100 + bonus)
				if 100*n <= exact-50 || 100*n > exact+50 || !ok {
					t.Errorf("%d with the bonus %d = %d, %v", sum, bonus, n, ok)
				}
				if exact%100 == 50 {
					halves++
				}
				if n, ok := impl.FullBase(c, called(text, false, make([]int, names+1)...)); n != sum || !ok {
					t.Errorf("%d that is not late = %d, %v", sum, n, ok)
				}
			}
		}
	}
	if halves < 100 {
		t.Errorf("only %d halves", halves)
	}
}

func TestFullBaseOfAllCalls(t *testing.T) {
	codes := []impl.Code{namedCode("2T", "3A", "EX")}
	for _, bases := range [][]int{{133, 801, 57}, {2000, 1999, 1}, {10, 20, 30}} {
		for bonus := 0; bonus <= 20; bonus += 5 {
			c := copiedCode(codes[0])
			for i := range c.Elements {
				c.Elements[i].Base = bases[i]
			}
			c.Bonus, c.Keeps = bonus, 100-bonus
			codes = append(codes, c)
		}
	}
	for _, c := range codes {
		for _, it := range allCalls() {
			if n, ok := impl.FullBase(c, it); n != plainFull(c, it) || !ok {
				t.Errorf("FullBase of %s = %d, %v; want %d", plainText(it), n, ok, plainFull(c, it))
			}
		}
	}
}

func TestFullBaseAndFamilyOnlyOfKnownItems(t *testing.T) {
	for what, it := range otherItems() {
		before := copiedItem(it)
		calm(t, what, func() {
			if n, ok := impl.FullBase(baseCode(), it); n != 0 || ok {
				t.Errorf("%s: FullBase = %d, %v", what, n, ok)
			}
			if f, ok := impl.ItemFamily(baseCode(), it); f != 0 || ok {
				t.Errorf("%s: ItemFamily = %d, %v", what, f, ok)
			}
		})
		if !sameItem(it, before) {
			t.Errorf("%s is changed", what)
		}
	}
}

// For each item its repeats, with Repeats 1, 2 and 3 its base.
func TestRepeats(t *testing.T) {
	single := func(marks ...int) []impl.Item {
		var l []impl.Item
		for _, mark := range marks {
			l = append(l, called("CSP", false, mark))
		}
		return l
	}
	for _, w := range []struct {
		list    []impl.Item
		repeats []int
		bases   [3][]int
	}{
		{nil, nil, [3][]int{}},
		{single(0), []int{0}, [3][]int{{325}, {325}, {325}}},
		{single(0, 0, 0, 0, 0), []int{0, 1, 2, 3, 4}, [3][]int{{325, 227, 0, 0, 0}, {325, 325, 227, 0, 0}, {325, 325, 325, 227, 0}}},
		// What is void before does not count, and other marks do.
		{single(3, 3, 3, 3, 0), []int{0, 0, 0, 0, 0}, [3][]int{{0, 0, 0, 0, 325}, {0, 0, 0, 0, 325}, {0, 0, 0, 0, 325}}},
		{single(3, 0, 3, 0, 0), []int{0, 0, 1, 1, 2}, [3][]int{{0, 325, 0, 227, 0}, {0, 325, 0, 325, 227}, {0, 325, 0, 325, 325}}},
		{single(0, 3, 0, 3, 0), []int{0, 1, 1, 2, 2}, [3][]int{{325, 0, 227, 0, 0}, {325, 0, 325, 0, 227}, {325, 0, 325, 0, 325}}},
		{single(1, 2, 1, 2), []int{0, 1, 2, 3}, [3][]int{{243, 204, 0, 0}, {243, 292, 170, 0}, {243, 292, 243, 204}}},
		// Only the first mark of an item decides whether it counts.
		{[]impl.Item{called("CSP 2T", false, 0, 3), called("CSP 2T", false, 3, 0), called("CSP", false, 0)}, []int{0, 1, 1}, [3][]int{{325, 91, 227}, {325, 130, 325}, {325, 130, 325}}},
		{[]impl.Item{called("CSP CSP CSP", false, 3, 0, 0), called("CSP CSP", false, 0, 3), called("CSP", false, 0)}, []int{0, 0, 1}, [3][]int{{650, 325, 227}, {650, 325, 325}, {650, 325, 325}}},
		// Only the first names count, not further names, of one item or of others.
		{planned("2A+2A+2A", "2T+2A", "2A"), []int{0, 0, 1}, [3][]int{{999, 463, 256}, {999, 463, 366}, {999, 463, 366}}},
		{planned("2T+CSP", "2T+CSP", "CSP"), []int{0, 1, 0}, [3][]int{{455, 318, 358}, {455, 455, 358}, {455, 455, 358}}},
		{planned("CSP+2T", "2T", "2T", "CSP"), []int{0, 0, 1, 1}, [3][]int{{455, 130, 100, 250}, {455, 130, 143, 358}, {455, 130, 143, 358}}},
		// The bonus comes before the tenths: 7 tenths of 358 and not of 357.5.
		{[]impl.Item{called("CSP", true, 0), called("CSP", true, 0), called("2T", false, 0)}, []int{0, 1, 0}, [3][]int{{358, 250, 130}, {358, 358, 130}, {358, 358, 130}}},
	} {
		for k, repeats := range w.repeats {
			if n, ok := impl.RepeatsOf(baseCode(), w.list, k); n != repeats || !ok {
				t.Errorf("RepeatsOf of %s, item %d = %d, %v; want %d", plainTexts(w.list), k, n, ok, repeats)
			}
		}
		for i, bases := range w.bases {
			checkBases(t, baseCodeWith(i+1, 10, 75), w.list, bases...)
		}
	}
}

func TestRepeatsOfLongLists(t *testing.T) {
	for repeats := 1; repeats <= 3; repeats++ {
		for base := 1; base <= 2000; base += 37 {
			c := oneElement(base, repeats, 20, 50)
			want := slices.Concat(slices.Repeat([]int{base}, repeats), []int{base * 7 / 10}, make([]int, 13-repeats))
			checkBases(t, c, slices.Repeat([]impl.Item{called("X", false, 0)}, 14), want...)
		}
	}
}

// Each item of many lists, with the plain results as the measure.
func TestBasesOfEachItem(t *testing.T) {
	knownLists(func(c impl.Code, l []impl.Item) {
		checkBases(t, c, l, plainBases(c, l)...)
		for k, it := range l {
			if n, ok := impl.RepeatsOf(c, l, k); n != plainRepeats(l, k) || !ok {
				t.Errorf("RepeatsOf of %s, item %d = %d, %v", plainTexts(l), k, n, ok)
			}
			if n, ok := impl.FullBase(c, it); n != plainFull(c, it) || !ok {
				t.Errorf("FullBase of %s = %d, %v", plainText(it), n, ok)
			}
			late, early := it, it
			late.Late, early.Late = true, false
			if n, ok := impl.LateGain(c, l, k); n != plainFull(c, late)-plainFull(c, early) || !ok {
				t.Errorf("LateGain of %s, item %d = %d, %v", plainTexts(l), k, n, ok)
			}
		}
	})
}

// What is behind an item does not matter to it.
func TestBasesOfBeginnings(t *testing.T) {
	knownLists(func(c impl.Code, l []impl.Item) {
		whole, ok := impl.BaseValues(c, l)
		for n := range len(l) {
			if bases, good := impl.BaseValues(c, l[:n]); !slices.Equal(bases, whole[:n]) || !ok || !good {
				t.Errorf("BaseValues of the first %d of %s = %v, %v", n, plainTexts(l), bases, good)
			}
		}
	})
}

func TestItemsThatAreNotThere(t *testing.T) {
	for _, l := range [][]impl.Item{nil, {}, planned("2A"), planned("2A", "2T+2A", "CSP"), knownItems(9, 14, baseCode())} {
		for _, k := range append([]int{-14, -3, len(l) - 1, len(l), len(l) + 1, 13, 14, 15}, wild...) {
			there := k >= 0 && k < len(l)
			for what, call := range map[string]func(impl.Code, []impl.Item, int) (int, bool){"RepeatsOf": impl.RepeatsOf, "ItemBase": impl.ItemBase, "LateGain": impl.LateGain} {
				calm(t, what, func() {
					if n, ok := call(baseCode(), l, k); ok != there || !ok && n != 0 {
						t.Errorf("%s of %s, item %d = %d, %v", what, plainTexts(l), k, n, ok)
					}
				})
			}
		}
	}
}

func TestBasesOfNoItems(t *testing.T) {
	for _, c := range append(someCodes(), baseCode()) {
		for _, l := range [][]impl.Item{nil, {}} {
			bases, ok := impl.BaseValues(c, l)
			losses, good := impl.MarkLosses(c, l)
			if len(bases) != 0 || !ok || len(losses) != 0 || !good {
				t.Errorf("BaseValues = %v, %v, MarkLosses = %v, %v", bases, ok, losses, good)
			}
			if known, ok := impl.KnowsItems(c, l); !known || !ok {
				t.Errorf("KnowsItems = %v, %v", known, ok)
			}
			if sum, ok := impl.ProgrammeBase(c, l); sum != 0 || !ok {
				t.Errorf("ProgrammeBase = %d, %v", sum, ok)
			}
			if sums, ok := impl.FamilyBases(c, l); !slices.Equal(sums, make([]int, 5)) || !ok {
				t.Errorf("FamilyBases = %v, %v", sums, ok)
			}
		}
	}
}

func TestMarkLosses(t *testing.T) {
	for _, w := range []struct {
		list   []impl.Item
		losses []int
	}{
		{planned("2A", "2T+2A", "CSP"), []int{0, 0, 0}},
		{[]impl.Item{called("2A", false, 0), called("2A", false, 1), called("2T", false, 2), called("CSP", false, 3)}, []int{0, 84, 13, 325}},
		{[]impl.Item{called("2A 2T 3A", false, 1, 2, 3)}, []int{898}},
		{[]impl.Item{called("2A 2T 3A", false, 3, 3, 3)}, []int{1264}},
		// Late items lose their bonus too: 366 to 274, 329 and 0.
		{[]impl.Item{called("2A", true, 1), called("2T", true, 0), called("2A", true, 2)}, []int{92, 0, 37}},
		{[]impl.Item{called("2A", true, 3)}, []int{366}},
		// Items that are repeated too often otherwise are worth more behind void ones: 233 to 333 and 0 to 233.
		{[]impl.Item{called("2A", false, 3), called("2A", false, 0), called("2A", false, 0), called("2A", false, 0)}, []int{333, 0, -100, -233}},
		{[]impl.Item{called("2A", false, 3), called("2A", false, 3), called("2A", false, 0), called("2A", false, 0)}, []int{333, 333, -100, -333}},
		{[]impl.Item{called("2A", false, 0), called("2A", false, 0), called("2A", false, 1), called("2A", false, 1)}, []int{0, 0, 59, 0}},
		{[]impl.Item{called("2A 2T", false, 0, 3), called("2A", false, 0), called("2A", false, 0)}, []int{130, 0, 0}},
	} {
		if losses, ok := impl.MarkLosses(baseCode(), w.list); !slices.Equal(losses, w.losses) || !ok {
			t.Errorf("MarkLosses of %s = %v, %v; want %v", plainTexts(w.list), losses, ok, w.losses)
		}
	}
	knownLists(func(c impl.Code, l []impl.Item) {
		want := plainBases(c, unmarked(l))
		for k, base := range plainBases(c, l) {
			want[k] -= base
		}
		if losses, ok := impl.MarkLosses(c, l); !slices.Equal(losses, want) || !ok {
			t.Errorf("MarkLosses of %s = %v, %v; want %v", plainTexts(l), losses, ok, want)
		}
		clean := unmarked(l)
		if losses, ok := impl.MarkLosses(c, clean); !slices.Equal(losses, make([]int, len(l))) || !ok {
			t.Errorf("MarkLosses of %s = %v, %v", plainTexts(clean), losses, ok)
		}
	})
}

func TestLateGain(t *testing.T) {
	for _, late := range []bool{false, true} {
		l := []impl.Item{called("2A", late, 0), called("2A", late, 1), called("CSP", late, 0), called("PIV", late, 0), called("STSQ", late, 0), called("2A 2T 3A", late, 0, 0, 0), called("3A", late, 3), called("2A", late, 0)}
		// The last item is repeated too often for a base, but its full base still gains.
		for k, gain := range []int{33, 25, 33, 1, 0, 126, 0, 33} {
			if n, ok := impl.LateGain(baseCodeWith(1, 10, 75), l, k); n != gain || !ok {
				t.Errorf("LateGain of %s = %d, %v; want %d", plainText(l[k]), n, ok, gain)
			}
			if n, ok := impl.LateGain(baseCodeWith(1, 0, 75), l, k); n != 0 || !ok {
				t.Errorf("LateGain of %s without a bonus = %d, %v", plainText(l[k]), n, ok)
			}
		}
	}
}

func TestFamilyBases(t *testing.T) {
	for _, w := range []struct {
		list []impl.Item
		sums []int
	}{
		{planned("2A", "CSP"), []int{333, 358, 0, 0, 0}}, {planned("STSQ"), []int{0, 0, 1, 0, 0}}, {planned("PIV", "PIV"), []int{0, 0, 0, 0, 15}},
		{planned("2A+2T", "2A", "2T", "PIV"), []int{463 + 333 + 143, 0, 0, 0, 8}}, {planned("2A+CSP", "CSP+2A+PIV"), []int{658, 732, 0, 0, 0}},
		// The third and the fourth one are repeated, with Repeats 2.
		{[]impl.Item{called("2A", false, 0), called("2A", false, 0), called("2A", false, 0), called("2A", false, 0), called("CSP", false, 3)}, []int{899, 0, 0, 0, 0}},
	} {
		if sums, ok := impl.FamilyBases(baseCode(), w.list); !slices.Equal(sums, w.sums) || !ok {
			t.Errorf("FamilyBases of %s = %v, %v; want %v", plainTexts(w.list), sums, ok, w.sums)
		}
	}
	if sums, ok := impl.FamilyBases(planCode(), planned("LIFT", "LIFT")); !slices.Equal(sums, []int{0, 0, 0, 1050, 0}) || !ok {
		t.Errorf("FamilyBases of lifts = %v, %v", sums, ok)
	}
}

func TestPromise5BasesAddUpByFamilies(t *testing.T) {
	knownLists(func(c impl.Code, l []impl.Item) {
		want := make([]int, 5)
		whole := 0
		for k, it := range l {
			family, ok := impl.ItemFamily(c, it)
			base, good := impl.ItemBase(c, l, k)
			if known, fine := impl.FamilyOf(c, it); family != known || !ok || !good || !fine {
				t.Errorf("%s: the family is %d, %v; the base is %d, %v", plainText(it), family, ok, base, good)
			}
			want[family] += base
			whole += base
		}
		sums, ok := impl.FamilyBases(c, l)
		if !slices.Equal(sums, want) || !ok {
			t.Errorf("FamilyBases of %s = %v, %v; want %v", plainTexts(l), sums, ok, want)
		}
		bases, good := impl.BaseValues(c, l)
		sum, fine := impl.ProgrammeBase(c, l)
		if sum != whole || sumOf(bases) != whole || sumOf(sums) != whole || len(bases) != len(l) || !good || !fine {
			t.Errorf("%s: ProgrammeBase = %d, %v; BaseValues = %v, %v; the families have %v", plainTexts(l), sum, fine, bases, good, sums)
		}
	})
}

func TestPromise5NothingCalledDownIsWorthMore(t *testing.T) {
	for _, c := range append(someCodes(), baseCode()) {
		for _, x := range c.Elements {
			none, ok := impl.ElementWorth(c, x.Name, impl.MkNone)
			for mark := range 4 {
				if n, good := impl.ElementWorth(c, x.Name, mark); n > none || n < 0 || none != x.Base || !ok || !good {
					t.Errorf("%+v: the worth with the mark %d is %d, %v", x, mark, n, good)
				}
			}
		}
	}
	knownLists(func(c impl.Code, l []impl.Item) {
		clean := unmarked(l)
		losses, ok := impl.MarkLosses(c, l)
		seen := map[string]bool{}
		for k, it := range l {
			n, good := impl.FullBase(c, it)
			most, fine := impl.FullBase(c, clean[k])
			if n > most || !good || !fine {
				t.Errorf("FullBase of %s = %d, %v; without marks %d, %v", plainText(it), n, good, most, fine)
			}
			if !seen[it.Names[0]] && losses[k] < 0 || !ok {
				t.Errorf("MarkLosses of %s = %v, %v", plainTexts(l), losses, ok)
			}
			seen[it.Names[0]] = true
		}
		// One mark in a list without marks: no item is repeated less often by it, but if a first name is void.
		before, ok := impl.ProgrammeBase(c, clean)
		for k, it := range clean {
			for i := range it.Names {
				for mark := range 4 {
					if i == 0 && mark == impl.MkVoid {
						continue
					}
					it.Marks[i] = mark
					if n, good := impl.ProgrammeBase(c, clean); n > before || !ok || !good {
						t.Errorf("ProgrammeBase of %s = %d, %v; it was %d before item %d was called down", plainTexts(clean), n, good, before, k)
					}
				}
				it.Marks[i] = impl.MkNone
			}
		}
	})
}

// checkNoBases checks that all functions with a code and a list fail, but for KnowsItems if both are valid.
func checkNoBases(t *testing.T, what string, c impl.Code, l []impl.Item, valid bool) {
	t.Helper()
	calm(t, what, func() {
		if known, ok := impl.KnowsItems(c, l); known || ok != valid {
			t.Errorf("%s: KnowsItems = %v, %v", what, known, ok)
		}
		for k := -1; k <= min(len(l), 15); k++ {
			for name, call := range map[string]func(impl.Code, []impl.Item, int) (int, bool){"RepeatsOf": impl.RepeatsOf, "ItemBase": impl.ItemBase, "LateGain": impl.LateGain} {
				if n, ok := call(c, l, k); n != 0 || ok {
					t.Errorf("%s: %s of item %d = %d, %v", what, name, k, n, ok)
				}
			}
		}
		if sum, ok := impl.ProgrammeBase(c, l); sum != 0 || ok {
			t.Errorf("%s: ProgrammeBase = %d, %v", what, sum, ok)
		}
		for name, call := range map[string]func(impl.Code, []impl.Item) ([]int, bool){"BaseValues": impl.BaseValues, "MarkLosses": impl.MarkLosses, "FamilyBases": impl.FamilyBases} {
			if n, ok := call(c, l); len(n) != 0 || ok {
				t.Errorf("%s: %s = %v, %v", what, name, n, ok)
			}
		}
	})
}

func TestBasesOnlyOfKnownLists(t *testing.T) {
	for _, l := range knownAndOther()[false] {
		checkNoBases(t, plainTexts(l), baseCode(), l, true)
	}
}

func TestPromise33BasesWithBadCodes(t *testing.T) {
	for what, c := range badCodes() {
		before := copiedCode(c)
		it := firstElement(c)
		for _, l := range listsForBadCode(it) {
			checkNoBases(t, what, c, l, false)
		}
		calm(t, what, func() {
			for mark := range 5 {
				if n, ok := impl.ElementWorth(c, it.Names[0], mark); n != 0 || ok {
					t.Errorf("%s: ElementWorth = %d, %v", what, n, ok)
				}
			}
			if f, ok := impl.ItemFamily(c, it); f != 0 || ok {
				t.Errorf("%s: ItemFamily = %d, %v", what, f, ok)
			}
			if n, ok := impl.FullBase(c, it); n != 0 || ok {
				t.Errorf("%s: FullBase = %d, %v", what, n, ok)
			}
		})
		if !reflect.DeepEqual(copiedCode(c), before) {
			t.Errorf("%s: the code is changed", what)
		}
	}
}

func TestPromise33BasesOfBadLists(t *testing.T) {
	codes := []impl.Code{wideCode(), namedCode("2T", "3A", "4S", "A", "EX"), {}}
	for what, l := range badListsWithKnown() {
		before := copiedItems(l)
		for i, c := range codes {
			checkNoBases(t, fmt.Sprint(what, ", code ", i), c, l, false)
		}
		if !sameItems(l, before) {
			t.Errorf("%s: the list is changed", what)
		}
	}
}

func TestPromise33BasesAcceptAllArguments(t *testing.T) {
	for _, a := range wild {
		for _, b := range wild {
			calm(t, "calls with wild numbers", func() {
				c, l := baseCodeWith(a, b, a), []impl.Item{called("2A", true, b), called("2T", false, a)}
				impl.ElementWorth(c, "2A", b)
				impl.ElementWorth(oneElement(a, 1, 0, 50), "X", b)
				impl.KnowsItems(c, l)
				impl.ItemFamily(c, l[0])
				impl.FullBase(baseCode(), l[0])
				impl.FullBase(oneElement(a, 1, 0, 50), called("X", true, b))
				impl.RepeatsOf(baseCode(), l, a)
				impl.ItemBase(baseCode(), l, a)
				impl.BaseValues(baseCode(), l)
				impl.ProgrammeBase(c, l)
				impl.MarkLosses(baseCode(), l)
				impl.LateGain(baseCode(), l, a)
				impl.FamilyBases(impl.Code{Elements: []impl.Element{{Name: "2A", Family: a, Level: b, Base: 1}}, Limits: []int{a, b}, Repeats: 1, Keeps: 50}, l)
			})
		}
	}
	for _, s := range []string{"", "\x00", "\xff", "\u20ac", "2A ", strings.Repeat("A", 100000)} {
		it := impl.Item{Names: []string{"2A", s}, Marks: []int{0, 0}}
		checkNoBases(t, fmt.Sprintf("the name %.20q", s), baseCode(), []impl.Item{it}, false)
		calm(t, "calls with wild strings", func() {
			impl.ElementWorth(namedCode(s), s, 0)
			impl.ItemFamily(baseCode(), it)
			impl.FullBase(namedCode(s), it)
		})
	}
}

func TestPromise33BasesLeaveArgumentsAsTheyAre(t *testing.T) {
	knownLists(func(code impl.Code, original []impl.Item) {
		c, sameCode := sparedCode(code)
		l, same := sparedItems(original)
		impl.ElementWorth(c, c.Elements[0].Name, 1)
		impl.KnowsItems(c, l)
		for k, it := range l {
			impl.ItemFamily(c, it)
			impl.FullBase(c, it)
			impl.RepeatsOf(c, l, k)
			impl.ItemBase(c, l, k)
			impl.LateGain(c, l, k)
		}
		impl.ProgrammeBase(c, l)
		for what, call := range map[string]func(impl.Code, []impl.Item) ([]int, bool){"BaseValues": impl.BaseValues, "MarkLosses": impl.MarkLosses, "FamilyBases": impl.FamilyBases} {
			first, _ := call(c, l)
			kept := slices.Clone(first)
			second, _ := call(c, l)
			spoilNumbers(second)
			if third, ok := call(c, l); !slices.Equal(first, kept) || !slices.Equal(third, kept) || !ok {
				t.Errorf("%s of %s: two results share memory", what, plainTexts(original))
			}
		}
		if !sameCode() || !same() {
			t.Errorf("%s is changed, or the code", plainTexts(original))
		}
	})
}

// What stands behind the length of a list, of its names or of a code's elements is not read.
func TestPromise33BasesReadNothingBehindLists(t *testing.T) {
	c, _ := sparedCode(baseCode())
	l, _ := sparedItems(planned("2A", "2A", "CSP"))
	checkBases(t, c, l, 333, 333, 358)
	for _, it := range planned("ZZZZZ", "2A+ZZZZZ") {
		checkNoBases(t, plainText(it), c, []impl.Item{it}, true)
	}
	if n, ok := impl.ElementWorth(c, "ZZZZZ", 0); n != 0 || ok {
		t.Errorf("ElementWorth = %d, %v", n, ok)
	}
}
