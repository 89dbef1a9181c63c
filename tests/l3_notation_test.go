package tests

import (
	"fmt"
	"math"
	"reflect"
	"regexp"
	"slices"
	"sort"
	"strings"
	"testing"

	"loop.example/g00912/impl"
)

// called is an item with the names of a text, words with blanks between them, and marks.
func called(names string, late bool, marks ...int) impl.Item {
	return impl.Item{Names: strings.Fields(names), Marks: marks, Late: late}
}

// someItems have names once and several times, in one item and in different ones, and each mark.
func someItems() []impl.Item {
	return []impl.Item{
		called("3A 2T", true, 1, 0), called("STSQ", false, 2), called("3A", false, 0), called("2T 2T 9", false, 3, 1, 1), called("CSP", true, 3), called("3A Z0Z0Z 2T", true, 0, 2, 3),
	}
}

const someItemsText = "3A<+2T x\nSTSQe\n3A\n2T*+2T<+9<\nCSP* x\n3A+Z0Z0Ze+2T* x\n"

// longestItems is the list with the longest text.
func longestItems() []impl.Item {
	var l []impl.Item
	for i := range 14 {
		l = append(l, called("AAAAA ZZZZZ 9999"+string(rune('A'+i)), true, 1+i%3, 3, 1))
	}
	return l
}

func longestItemsText() string {
	text := ""
	for i := range 14 {
		text += "AAAAA" + "<e*"[i%3:i%3+1] + "+ZZZZZ*+9999" + string(rune('A'+i)) + "< x\n"
	}
	return text
}

// mixedItems is a list of n items that differ from one seed to the next one.
func mixedItems(seed, n int) []impl.Item {
	next := mixing(seed)
	var l []impl.Item
	for range n {
		it := impl.Item{Late: next(2) == 1}
		for range 1 + next(3) {
			it.Names = append(it.Names, "AZ09B3"[next(3):][:1]+strings.Repeat("3", next(5)))
			it.Marks = append(it.Marks, next(4))
		}
		l = append(l, it)
	}
	return l
}

func someLists() [][]impl.Item {
	lists := [][]impl.Item{nil, {}, someItems(), longestItems(), {called("A", false, 0)}, {called("00000", true, 3)}}
	for n := range 15 {
		lists = append(lists, mixedItems(n, n), mixedItems(n+1000, n))
	}
	return lists
}

// allCalls are all items of the names 3A, 2T and EX, or of the first ones of them, with each mark at each place.
func allCalls() []impl.Item {
	var items []impl.Item
	for _, late := range []bool{false, true} {
		for a := range 4 {
			items = append(items, called("3A", late, a))
			for b := range 4 {
				items = append(items, called("3A 2T", late, a, b))
				for c := range 4 {
					items = append(items, called("3A 2T EX", late, a, b, c))
				}
			}
		}
	}
	return items
}

// plainText is the text of an item as the document describes it, name by name.
func plainText(it impl.Item) string {
	text := ""
	for i, name := range it.Names {
		text += "+" + name + []string{"", "<", "e", "*"}[it.Marks[i]]
	}
	return text[1:] + map[bool]string{true: " x"}[it.Late]
}

func copiedItem(it impl.Item) impl.Item {
	it.Names, it.Marks = slices.Clone(it.Names), slices.Clone(it.Marks)
	return it
}

func copiedItems(l []impl.Item) []impl.Item {
	copied := make([]impl.Item, len(l))
	for i, it := range l {
		copied[i] = copiedItem(it)
	}
	return copied
}

func sameItem(a, b impl.Item) bool {
	return slices.Equal(a.Names, b.Names) && slices.Equal(a.Marks, b.Marks) && a.Late == b.Late
}

func sameItems(a, b []impl.Item) bool { return slices.EqualFunc(a, b, sameItem) }

func isNoItem(it impl.Item) bool { return sameItem(it, impl.Item{}) }

// badItems are wrong in one way each.
func badItems() map[string]impl.Item {
	items := map[string]impl.Item{
		"zero":                    {},
		"zero and late":           {Late: true},
		"empty":                   {Names: []string{}, Marks: []int{}},
		"no names and a mark":     {Marks: []int{0}},
		"no marks":                called("3A", false),
		"two names, no marks":     called("3A 2T", true),
		"two marks of one name":   called("3A", false, 0, 0),
		"one mark of two names":   called("3A 2T", false, 0),
		"three marks of two":      called("3A 2T", false, 1, 2, 3),
		"two marks of three":      called("3A 2T EX", true, 0, 0),
		"four marks of three":     called("3A 2T EX", false, 0, 0, 0, 0),
		"four names":              called("3A 2T EX 4S", false, 0, 0, 0, 0),
		"four names, three marks": called("3A 2T EX 4S", false, 0, 0, 0),
		"four equal names":        called("3A 3A 3A 3A", true, 1, 1, 1, 1),
		"10000 names":             {Names: slices.Repeat([]string{"3A"}, 10000), Marks: make([]int, 10000)},
	}
	for _, mark := range append([]int{4, 5, -3, 255, 256, 257, -256}, wild...) {
		for place := range 3 {
			if mark < 0 || mark > 3 {
				it := called("3A 2T EX", false, 3, 3, 3)
				it.Marks[place] = mark
				items[fmt.Sprint("mark ", mark, " at ", place)] = it
				items[fmt.Sprint("mark ", mark, " alone")] = called("3A", true, mark)
			}
		}
	}
	for _, name := range []string{"", "AAAAAA", "a", "3a", "e", "x", "A ", " A", "A<", "A*", "Ae", "A+B", "+", "A\n", "\n", "A x", "A-", "\u00c4", "\xff", "\x00", "\uff21", "\u0663", strings.Repeat("A", 100000)} {
		for place := range 3 {
			it := called("3A 2T EX", true, 1, 0, 1)
			it.Names[place] = name
			items[fmt.Sprintf("name %.20q at %d", name, place)] = it
			items[fmt.Sprintf("name %.20q alone", name)] = impl.Item{Names: []string{name}, Marks: []int{0}}
		}
	}
	return items
}

// badLists have too many items, or a bad one among others.
func badLists() map[string][]impl.Item {
	lists := map[string][]impl.Item{
		"15 items":      append(longestItems(), called("A", false, 0)),
		"15 equal ones": slices.Repeat([]impl.Item{called("A", false, 0)}, 15),
		"10000 items":   slices.Repeat([]impl.Item{called("A", false, 0)}, 10000),
		"15 zero ones":  make([]impl.Item, 15),
	}
	for what, it := range badItems() {
		lists[what] = []impl.Item{it}
		for at := range 14 {
			l := longestItems()
			l[at] = it
			lists[fmt.Sprint(what, ", item ", at)] = l
		}
	}
	return lists
}

func TestNotationConstants(t *testing.T) {
	marks := []int{impl.MkNone, impl.MkDown, impl.MkEdge, impl.MkVoid}
	if !slices.Equal(marks, []int{0, 1, 2, 3}) || impl.MaxItems != 14 {
		t.Error("marks", marks, "items", impl.MaxItems)
	}
}

func TestIsName(t *testing.T) {
	const allowed = "ABCDEFGHIJKLMNOPQRSTUVWXYZ0123456789"
	for b := range 256 {
		want := strings.IndexByte(allowed, byte(b)) >= 0
		s := string([]byte{byte(b)})
		for _, name := range []string{s, "3" + s, s + "T", "3A" + s + "9Z", "3A0Z" + s} {
			if impl.IsName(name) != want {
				t.Errorf("IsName(%q) = %v", name, !want)
			}
		}
	}
	for n := range 12 {
		for _, s := range []string{strings.Repeat("7", n), strings.Repeat("Z", n)} {
			if impl.IsName(s) != (n >= 1 && n <= 5) {
				t.Errorf("IsName(%q) is wrong", s)
			}
		}
	}
	for _, s := range []string{"\u00c4", "3\u00c5", "\uff21", "\u0663", "A\u0301", strings.Repeat("A", 100000)} {
		if impl.IsName(s) {
			t.Errorf("%q is a name", s)
		}
	}
}

func TestIsItem(t *testing.T) {
	good := append(allCalls(), called("A", false, 0), called("00000 ZZZZZ 5", true, 3, 0, 3), called("3A 3A 3A", false, 0, 1, 2))
	for _, l := range someLists() {
		good = append(good, l...)
	}
	for _, it := range good {
		if !impl.IsItem(it) {
			t.Errorf("%+v is not valid", it)
		}
	}
	for what, it := range badItems() {
		if impl.IsItem(it) {
			t.Errorf("%s: the item is valid", what)
		}
	}
}

func TestAreItems(t *testing.T) {
	for _, l := range someLists() {
		if !impl.AreItems(l) {
			t.Errorf("%+v is not valid", l)
		}
	}
	for n := range 30 {
		if impl.AreItems(slices.Repeat([]impl.Item{called("3A", false, 0)}, n)) != (n <= 14) {
			t.Errorf("AreItems of %d items is wrong", n)
		}
	}
	for what, l := range badLists() {
		if impl.AreItems(l) {
			t.Errorf("%s: the list is valid", what)
		}
	}
}

func TestItemText(t *testing.T) {
	for text, it := range map[string]impl.Item{
		"A": called("A", false, 0), "A x": called("A", true, 0), "A<": called("A", false, 1), "Ae": called("A", false, 2), "A*": called("A", false, 3),
		"3A<+2T x": called("3A 2T", true, 1, 0), "3A+2T<": called("3A 2T", false, 0, 1), "E+Ee+Ee x": called("E E E", true, 0, 2, 2), "X x": called("X", true, 0),
		"00000+99999*+ZZZZZ": called("00000 99999 ZZZZZ", false, 0, 3, 0), "3A*+3A*+3A* x": called("3A 3A 3A", true, 3, 3, 3), "EXEXEe x": called("EXEXE", true, 2),
	} {
		if s, ok := impl.ItemText(it); s != text || !ok {
			t.Errorf("ItemText of %+v = %q, %v; want %q", it, s, ok, text)
		}
		if x, ok := impl.ParseItem(text); !sameItem(x, it) || !ok {
			t.Errorf("ParseItem of %q = %+v, %v", text, x, ok)
		}
	}
	for what, it := range badItems() {
		if s, ok := impl.ItemText(it); s != "" || ok {
			t.Errorf("%s: ItemText = %q, %v", what, s, ok)
		}
	}
}

func TestPromise3ItemsAreReadBack(t *testing.T) {
	items := allCalls()
	for _, l := range someLists() {
		items = append(items, l...)
	}
	for _, it := range items {
		s, ok := impl.ItemText(it)
		if s != plainText(it) || !ok {
			t.Errorf("ItemText of %+v = %q, %v", it, s, ok)
		}
		if x, ok := impl.ParseItem(s); !sameItem(x, it) || !ok {
			t.Errorf("ParseItem of %q = %+v, %v", s, x, ok)
		}
	}
}

// nearlyItems are no texts of an item, and not of a list if a newline is put behind them.
var nearlyItems = []string{
	"", " ", "+", "<", "e", "*", "x", " x", "a", "-", "A<<", "Aee", "A**", "A<e", "A<*", "Ae<", "A*<", "Ae*", "<A", "eA", "*A", "A+<", "A<+*", "A<B", "AeB", "A*B",
	"+A", "A+", "A<+", "A+ x", "A<+ x", "+A x", "A++B", "A+B+", "+A+B", "A+B+C+", "A+B+C+D", "A<+B<+C<+D<", "A+B+C+D x", "A +B", "A+ B", "A + B", "A B", "A,B",
	"A  x", "A x ", "A xx", "A x x", "A X", "Ax", "A< xe", "A x<", "Ae  x", " A", " A x", "A ", "A\tx", "A\u00a0x", "A x+B", "A+B x+C", "A x B", "A<x", "Ax ", "A e", "A <",
	"AAAAAA", "A+BBBBBB", "AAAAAA<", "A+B+CCCCCC x", "AAAAAe<", "AAAAAee", "AAAAAAe", "a<", "Aa", "3A\x00", "\x00", "\xff", "A\xff", "\u00c4", "A\u0301", "\uff21", "\u0663", "\ufeffA", "A\r", "A x\r", "A<\r",
}

func TestParseItemOfNearlyTexts(t *testing.T) {
	texts := append([]string{
		"\n", "A\n", "A x\n", "A\nB", "A\nB\n", "\nA", "A\n\n", "A+B<\n", someItemsText, strings.TrimSuffix(someItemsText, "\n"),
		strings.Repeat("A", 100000), strings.Repeat("A+", 100000), strings.Repeat("\n", 100000), "A" + strings.Repeat(" x", 100000), "A" + strings.Repeat("<", 100000),
	}, nearlyItems...)
	for _, s := range texts {
		if it, ok := impl.ParseItem(s); !isNoItem(it) || ok {
			t.Errorf("ParseItem of %.100q = %+v, %v", s, it, ok)
		}
	}
}

func TestItemsText(t *testing.T) {
	for text, l := range map[string][]impl.Item{
		"": nil, "A\n": {called("A", false, 0)}, "3A<+2T x\n": {called("3A 2T", true, 1, 0)}, "A\nA\n": {called("A", false, 0), called("A", false, 0)},
		someItemsText: someItems(), longestItemsText(): longestItems(), strings.Repeat("E x\n", 14): slices.Repeat([]impl.Item{called("E", true, 0)}, 14),
	} {
		if s, ok := impl.ItemsText(l); s != text || !ok {
			t.Errorf("ItemsText of %+v = %q, %v; want %q", l, s, ok, text)
		}
		if x, ok := impl.ParseItems(text); !sameItems(x, l) || !ok {
			t.Errorf("ParseItems of %q = %+v, %v", text, x, ok)
		}
	}
	if s, ok := impl.ItemsText([]impl.Item{}); s != "" || !ok {
		t.Errorf("ItemsText of an empty list = %q, %v", s, ok)
	}
	for what, l := range badLists() {
		if s, ok := impl.ItemsText(l); s != "" || ok {
			t.Errorf("%s: ItemsText = %q, %v", what, s, ok)
		}
	}
}

func TestPromise3ListsAreReadBack(t *testing.T) {
	lists := someLists()
	for _, it := range allCalls() {
		lists = append(lists, []impl.Item{it}, []impl.Item{called("7", true, 2), it}, slices.Repeat([]impl.Item{it}, 14))
	}
	for _, l := range lists {
		want := ""
		for _, it := range l {
			want += plainText(it) + "\n"
		}
		s, ok := impl.ItemsText(l)
		if s != want || !ok {
			t.Errorf("ItemsText of %+v = %q, %v", l, s, ok)
		}
		if x, ok := impl.ParseItems(s); !sameItems(x, l) || !ok {
			t.Errorf("ParseItems of %q = %+v, %v", s, x, ok)
		}
		if line, column, ok := impl.FirstWrong(s); line != 0 || column != 0 || ok {
			t.Errorf("FirstWrong of %q = %d, %d, %v", s, line, column, ok)
		}
	}
}

func TestParseItemsOfNearlyTexts(t *testing.T) {
	long := longestItemsText()
	texts := []string{
		"A", "A<", "A x", "A\nB", "A\nB x", "\n", "\n\n", "\nA\n", "A\n\n", "A\n\nB\n", "A\n\n\n", "A\n ", "A\n \n", " A\n", "A \n", "A\n B\n", "A\r\n", "A\n\r", "A\nB;C\n", "A;B", "A\x00\n", "A\n\x00",
		strings.TrimSuffix(long, "\n"), long + "A\n", long + "\n", long + "A", long + " ", strings.Repeat("A\n", 15), strings.Repeat("A\n", 16), strings.Repeat("A\n", 100000), "\n" + long,
		strings.TrimSuffix(someItemsText, "\n"), someItemsText + "\n", someItemsText + "+", strings.ReplaceAll(someItemsText, "\n", "\r\n"), strings.ReplaceAll(someItemsText, "\n", "\n\n"), strings.ReplaceAll(someItemsText, " ", "  "),
		strings.ReplaceAll(someItemsText, "\n", " \n"), strings.ReplaceAll(someItemsText, "\n", "\n "), strings.ToLower(someItemsText), strings.ReplaceAll(someItemsText, "\n", ""), strings.Repeat("A", 100000), strings.Repeat("\n", 100000),
	}
	for _, s := range nearlyItems {
		// Between two other items, and in place of the last one.
		texts = append(texts, s+"\n", "B x\n"+s+"\n", s+"\nB\n", "B\n"+s+"\nB\n", strings.Repeat("B\n", 13)+s+"\n")
	}
	for _, s := range texts {
		if l, ok := impl.ParseItems(s); len(l) != 0 || ok {
			t.Errorf("ParseItems of %.100q = %+v, %v", s, l, ok)
		}
	}
}

func TestFirstWrong(t *testing.T) {
	long := longestItemsText()
	for _, w := range []struct {
		text         string
		line, column int
	}{
		{"3A<<", 1, 4}, // the example of the document
		// The first byte.
		{"a", 1, 1}, {"<", 1, 1}, {"+", 1, 1}, {" ", 1, 1}, {"x", 1, 1}, {"e", 1, 1}, {"\n", 1, 1}, {"\x00", 1, 1}, {"\xff", 1, 1}, {"\u00c4", 1, 1}, {" x\n", 1, 1}, {"-A\n", 1, 1}, {"+A\n", 1, 1},
		// Within a name, and where it is too long.
		{"3a", 1, 2}, {"3-A\n", 1, 2}, {"3Ax\n", 1, 3}, {"AB\tC\n", 1, 3}, {"AAAAA\xff", 1, 6}, {"AAAAAA", 1, 6}, {"AAAAAAA\n", 1, 6}, {"A+AAAAAA\n", 1, 8}, {"A+B+AAAAAA x\n", 1, 10}, {"A\u00c4\n", 1, 2}, {"A\r\n", 1, 2},
		// Behind a mark.
		{"A<<", 1, 3}, {"Aee", 1, 3}, {"A**\n", 1, 3}, {"A<e", 1, 3}, {"A*<", 1, 3}, {"AeB\n", 1, 3}, {"A<B+C\n", 1, 3}, {"A+B**", 1, 5}, {"AAAAA<9\n", 1, 7}, {"AexX", 1, 3},
		// Behind a plus.
		{"A++B\n", 1, 3}, {"A+<", 1, 3}, {"A+ x\n", 1, 3}, {"A+\n", 1, 3}, {"A+b", 1, 3}, {"A<+e", 1, 4}, {"A+B+\n", 1, 5},
		// At a fourth name.
		{"A+B+C+", 1, 6}, {"A+B+C+D\n", 1, 6}, {"A<+B<+C<+D<\n", 1, 9}, {"AAAAA+BBBBB+CCCCC+", 1, 18},
		// Behind the blank, and behind the x.
		{"A  x\n", 1, 3}, {"A X\n", 1, 3}, {"A e", 1, 3}, {"A \n", 1, 3}, {"A A\n", 1, 3}, {"A+B< <", 1, 6}, {"A xx\n", 1, 4}, {"A x \n", 1, 4}, {"A x+B\n", 1, 4}, {"A xe", 1, 4}, {"A x\r\n", 1, 4},
		// At the end of the string.
		{"A", 1, 2}, {"AAAAA", 1, 6}, {"A<", 1, 3}, {"A+", 1, 3}, {"A+B", 1, 4}, {"A+B+C", 1, 6}, {"A ", 1, 3}, {"A x", 1, 4}, {"A+B+C* x", 1, 9}, {"A\nB", 2, 2}, {"A x\nB+", 2, 3}, {"A\nB\nC x", 3, 4},
		// In a later line, at a newline or as an empty line.
		{"A\n\n", 2, 1}, {"A\n\nB\n", 2, 1}, {"A\nb", 2, 1}, {"A x\nB\nC<<\n", 3, 3}, {"A\n x\n", 2, 1}, {"A\nB+\n", 2, 3}, {"A\nB \nC", 2, 3}, {"AAAAA\n+", 2, 1}, {"A\nB\n\n", 3, 1}, {"A\nAAAAAA", 2, 6},
		// At a fifteenth item, or where the fourteenth one ends.
		{strings.Repeat("A\n", 14) + "A\n", 15, 1}, {strings.Repeat("A\n", 14) + "A", 15, 1}, {strings.Repeat("A\n", 14) + "\n", 15, 1}, {strings.Repeat("A\n", 20), 15, 1}, {long + "A", 15, 1}, {long + "\n", 15, 1}, {long + "x", 15, 1},
		{strings.Repeat("A\n", 13) + "A", 14, 2}, {strings.Repeat("A\n", 13) + "a", 14, 1}, {long[:len(long)-1], 14, 23}, {long[:len(long)-2], 14, 22}, {long[:len(long)-1] + " ", 14, 23},
		// Strings that are as long as they may be.
		{strings.Repeat("A", 2000), 1, 6}, {strings.Repeat("\n", 2000), 1, 1}, {strings.Repeat("A\n", 1000), 15, 1}, {long + strings.Repeat("\xff", 2000-len(long)), 15, 1}, {"A x\nB" + strings.Repeat(" ", 1995), 2, 3}, {"a" + strings.Repeat("A", 1999), 1, 1},
	} {
		if line, column, ok := impl.FirstWrong(w.text); line != w.line || column != w.column || !ok {
			t.Errorf("FirstWrong of %.400q = %d, %d, %v; want %d, %d", w.text, line, column, ok, w.line, w.column)
		}
	}
}

func TestFirstWrongFails(t *testing.T) {
	texts := []string{
		"", "A\n", "3A<+2T x\n", someItemsText, longestItemsText(), strings.Repeat("A\n", 14),
		strings.Repeat("A", 2001), strings.Repeat("\n", 2001), strings.Repeat("A\n", 1000) + "A", "a" + strings.Repeat("A", 2000), strings.Repeat(" ", 2001), strings.Repeat("A\n", 100000), strings.Repeat("\xff", 100000),
	}
	for _, s := range texts {
		if line, column, ok := impl.FirstWrong(s); line != 0 || column != 0 || ok {
			t.Errorf("FirstWrong of %.100q, %d bytes, = %d, %d, %v", s, len(s), line, column, ok)
		}
	}
}

var textOfList = regexp.MustCompile(`\A([A-Z0-9]{1,5}[<e*]?(\+[A-Z0-9]{1,5}[<e*]?){0,2}( x)?\n){0,14}\z`)

// goesOn tells whether some text of a list begins with a string: one of four ends makes it such a text then.
func goesOn(s string) bool {
	for _, end := range []string{"", "\n", "A\n", "x\n"} {
		if textOfList.MatchString(s + end) {
			return true
		}
	}
	return false
}

// wrongPlace finds a first wrong place as the document defines it: behind a wrong beginning, all longer ones are wrong.
func wrongPlace(s string) (int, int) {
	at := sort.Search(len(s), func(i int) bool { return !goesOn(s[:i+1]) })
	lines := strings.Split(s[:at], "\n")
	return len(lines), len(lines[len(lines)-1]) + 1
}

// checkPlace checks promise 3 for one string: it is the text of a list that is read back, or it has a first wrong place.
func checkPlace(t *testing.T, s string) {
	t.Helper()
	l, whole := impl.ParseItems(s)
	line, column, wrong := impl.FirstWrong(s)
	if want := textOfList.MatchString(s); whole != want || wrong == want {
		t.Errorf("%q: ParseItems %v, FirstWrong %v; want %v", s, whole, wrong, want)
		return
	}
	if whole {
		if back, ok := impl.ItemsText(l); back != s || !ok || line != 0 || column != 0 {
			t.Errorf("%q is read as %+v and back as %q, with the place %d, %d", s, l, back, line, column)
		}
		return
	}
	wantLine, wantColumn := wrongPlace(s)
	if len(l) != 0 || line != wantLine || column != wantColumn {
		t.Errorf("%q: %+v, first wrong %d, %d; want %d, %d", s, l, line, column, wantLine, wantColumn)
	}
}

func TestPromise3AllShortStrings(t *testing.T) {
	texts := []string{""}
	for range 8 {
		var longer []string
		for _, s := range texts {
			for _, b := range "A<+ x\n" {
				longer = append(longer, s+string(b))
			}
		}
		for _, s := range longer {
			checkPlace(t, s)
		}
		// What is wrong at its beginning needs no more of its ends.
		texts = slices.DeleteFunc(longer, func(s string) bool { return !goesOn(s) && !goesOn(s[:len(s)-1]) })
	}
}

func TestPromise3EachByteAtEachPlace(t *testing.T) {
	places := []string{"", "A", "AAAA", "AAAAA", "A<", "Ae", "A*", "AAAAA<", "A+", "A+B", "A+AAAAA", "A<+B", "A+B<", "A+B+", "A+B+C", "A+B+CCCCC", "A+B+C*", "A ", "A+B+C ", "A x", "A+B+C< x", "A\n", "A x\n", "A\nB", "A\nB+", "A\nB ", "A+B+C\nA"}
	for _, s := range places {
		for b := range 256 {
			checkPlace(t, s+string([]byte{byte(b)}))
			checkPlace(t, s+string([]byte{byte(b)})+"\n")
		}
		for _, b := range []byte("/09:@AZ[`aexz<*+ \n\xff") {
			checkPlace(t, strings.Repeat("9+Z x\n", 13)+s+string([]byte{b}))
		}
	}
}

func TestPromise3ChangedTexts(t *testing.T) {
	for _, text := range []string{someItemsText, longestItemsText()} {
		for i := range len(text) + 1 {
			checkPlace(t, text[:i])
			for _, b := range []byte("Ae< x+\n\xff") {
				changed := text[:i] + string([]byte{b}) + text[i:]
				checkPlace(t, changed)
				if i < len(text) {
					checkPlace(t, text[:i]+string([]byte{b})+text[i+1:])
					checkPlace(t, text[:i]+text[i+1:])
				}
			}
		}
	}
}

func TestCleanItems(t *testing.T) {
	want := []impl.Item{
		called("3A 2T", true, 0, 0), called("STSQ", false, 0), called("3A", false, 0), called("2T 2T 9", false, 0, 0, 0), called("CSP", true, 0), called("3A Z0Z0Z 2T", true, 0, 0, 0),
	}
	if l, ok := impl.CleanItems(someItems()); !sameItems(l, want) || !ok {
		t.Errorf("CleanItems = %+v, %v", l, ok)
	}
	for _, l := range someLists() {
		clean := copiedItems(l)
		for _, it := range clean {
			clear(it.Marks)
		}
		x, ok := impl.CleanItems(l)
		if !sameItems(x, clean) || !ok {
			t.Errorf("CleanItems of %+v = %+v, %v", l, x, ok)
		}
		if y, ok := impl.CleanItems(x); !sameItems(y, clean) || !ok {
			t.Errorf("CleanItems of %+v = %+v, %v", x, y, ok)
		}
		if same, ok := impl.SameCalls(l, x); !same || !ok {
			t.Errorf("SameCalls of %+v and itself without marks = %v, %v", l, same, ok)
		}
	}
}

func TestCountMarks(t *testing.T) {
	for _, l := range someLists() {
		want := make([]int, 4)
		for _, it := range l {
			for _, mark := range it.Marks {
				want[mark]++
			}
		}
		if n, ok := impl.CountMarks(l); !slices.Equal(n, want) || !ok {
			t.Errorf("CountMarks of %+v = %v, %v", l, n, ok)
		}
	}
	for mark := range 4 {
		want := make([]int, 4)
		want[mark] = 42
		l := slices.Repeat([]impl.Item{called("A A B", false, mark, mark, mark)}, 14)
		if n, ok := impl.CountMarks(l); !slices.Equal(n, want) || !ok {
			t.Errorf("CountMarks of the mark %d = %v, %v", mark, n, ok)
		}
	}
	if n, ok := impl.CountMarks(someItems()); !slices.Equal(n, []int{3, 3, 2, 3}) || !ok {
		t.Errorf("CountMarks = %v, %v", n, ok)
	}
	if n, ok := impl.CountMarks(nil); !slices.Equal(n, []int{0, 0, 0, 0}) || !ok {
		t.Errorf("CountMarks of no items = %v, %v", n, ok)
	}
}

func TestNamesIn(t *testing.T) {
	for _, w := range []struct {
		l    []impl.Item
		want string
	}{
		{nil, ""}, {someItems(), "2T 3A 9 CSP STSQ Z0Z0Z"}, {[]impl.Item{called("B A B", false, 0, 1, 2)}, "A B"}, {[]impl.Item{called("Z", true, 0), called("A", false, 3), called("Z", false, 1)}, "A Z"},
		{[]impl.Item{called("AB A 9", false, 0, 0, 0), called("10 AA A0", false, 0, 0, 0), called("A 9 AB", false, 0, 0, 0)}, "10 9 A A0 AA AB"}, {[]impl.Item{called("A A A", false, 0, 0, 0)}, "A"},
		{longestItems(), "9999A 9999B 9999C 9999D 9999E 9999F 9999G 9999H 9999I 9999J 9999K 9999L 9999M 9999N AAAAA ZZZZZ"},
	} {
		if names, ok := impl.NamesIn(w.l); !slices.Equal(names, strings.Fields(w.want)) || !ok {
			t.Errorf("NamesIn of %+v = %v, %v", w.l, names, ok)
		}
	}
	for _, l := range someLists() {
		names, ok := impl.NamesIn(l)
		if !slices.IsSorted(names) || !ok {
			t.Errorf("NamesIn of %+v = %v, %v", l, names, ok)
		}
		had := map[string]bool{}
		for _, it := range l {
			for _, name := range it.Names {
				had[name] = true
			}
		}
		for _, name := range names {
			if !had[name] {
				t.Errorf("NamesIn of %+v has %q, too often or at all", l, name)
			}
			delete(had, name)
		}
		if len(had) > 0 {
			t.Errorf("NamesIn of %+v has not %v", l, had)
		}
	}
}

func TestSameCalls(t *testing.T) {
	base := []impl.Item{called("3A 2T", true, 1, 0), called("STSQ", false, 2), called("3A", false, 0)}
	changed := func(change func(l []impl.Item)) []impl.Item {
		l := copiedItems(base)
		change(l)
		return l
	}
	for what, l := range map[string][]impl.Item{
		"equal":     base,
		"one mark":  changed(func(l []impl.Item) { l[2].Marks[0] = 3 }),
		"all marks": changed(func(l []impl.Item) { l[0].Marks[0], l[0].Marks[1], l[1].Marks[0], l[2].Marks[0] = 0, 1, 0, 1 }),
		"one Late":  changed(func(l []impl.Item) { l[0].Late = false }),
		"all Late":  changed(func(l []impl.Item) { l[0].Late, l[1].Late, l[2].Late = false, true, true }),
		"both":      changed(func(l []impl.Item) { l[1].Late, l[1].Marks[0] = true, 1 }),
	} {
		checkSameCalls(t, what, base, l, true)
	}
	for what, l := range map[string][]impl.Item{
		"no items":         nil,
		"one less":         base[:2],
		"one less ahead":   base[1:],
		"one more":         append(copiedItems(base), called("3A", false, 0)),
		"another name":     changed(func(l []impl.Item) { l[2].Names[0] = "3B" }),
		"first name":       changed(func(l []impl.Item) { l[0].Names[0] = "3AA" }),
		"second name":      changed(func(l []impl.Item) { l[0].Names[1] = "3T" }),
		"names turned":     changed(func(l []impl.Item) { l[0].Names[0], l[0].Names[1] = "2T", "3A" }),
		"items turned":     changed(func(l []impl.Item) { l[1], l[2] = l[2], l[1] }),
		"a name less":      changed(func(l []impl.Item) { l[0] = called("3A", true, 1) }),
		"a name more":      changed(func(l []impl.Item) { l[1] = called("STSQ 2T", false, 2, 0) }),
		"names moved":      {called("3A", true, 1), called("2T STSQ", false, 0, 2), called("3A", false, 0)},
		"names and marks":  changed(func(l []impl.Item) { l[2] = called("2T", true, 1) }),
		"items in one":     {called("3A 2T STSQ", true, 1, 0, 2), called("3A", false, 0)},
		"items split":      {called("3A", true, 1), called("2T", true, 0), called("STSQ", false, 2), called("3A", false, 0)},
		"one name longer":  changed(func(l []impl.Item) { l[1].Names[0] = "STSQ1" }),
		"one name shorter": changed(func(l []impl.Item) { l[1].Names[0] = "STS" }),
	} {
		checkSameCalls(t, what, base, l, false)
	}
	checkSameCalls(t, "two empty lists", nil, []impl.Item{}, true)
	for i, a := range someLists() {
		for k, b := range someLists() {
			checkSameCalls(t, fmt.Sprint("lists ", i, " and ", k), a, b, slices.EqualFunc(a, b, func(x, y impl.Item) bool { return slices.Equal(x.Names, y.Names) }))
		}
	}
}

func checkSameCalls(t *testing.T, what string, a, b []impl.Item, want bool) {
	t.Helper()
	if same, ok := impl.SameCalls(a, b); same != want || !ok {
		t.Errorf("%s: SameCalls of %+v and %+v = %v, %v", what, a, b, same, ok)
	}
	if same, ok := impl.SameCalls(b, a); same != want || !ok {
		t.Errorf("%s: SameCalls of %+v and %+v = %v, %v", what, b, a, same, ok)
	}
}

func TestPromise33ListsThatAreNotValid(t *testing.T) {
	for what, l := range badLists() {
		before := copiedItems(l)
		calm(t, what, func() {
			if s, ok := impl.ItemsText(l); s != "" || ok {
				t.Errorf("%s: ItemsText = %q, %v", what, s, ok)
			}
			if x, ok := impl.CleanItems(l); len(x) != 0 || ok {
				t.Errorf("%s: CleanItems = %+v, %v", what, x, ok)
			}
			if n, ok := impl.CountMarks(l); len(n) != 0 || ok {
				t.Errorf("%s: CountMarks = %v, %v", what, n, ok)
			}
			if names, ok := impl.NamesIn(l); len(names) != 0 || ok {
				t.Errorf("%s: NamesIn = %v, %v", what, names, ok)
			}
			for _, other := range [][]impl.Item{nil, someItems(), l} {
				if same, ok := impl.SameCalls(l, other); same || ok {
					t.Errorf("%s: SameCalls = %v, %v", what, same, ok)
				}
				if same, ok := impl.SameCalls(other, l); same || ok {
					t.Errorf("%s: SameCalls, as the second list, = %v, %v", what, same, ok)
				}
			}
		})
		if !reflect.DeepEqual(copiedItems(l), before) {
			t.Errorf("%s: the list is changed", what)
		}
	}
}

func TestPromise33NotationAcceptsAllArguments(t *testing.T) {
	for _, a := range wild {
		for _, b := range wild {
			calm(t, "calls with wild marks", func() {
				good := a >= 0 && a <= 3 && b >= 0 && b <= 3
				it := called("3A 2T", false, a, b)
				if _, ok := impl.ItemText(it); impl.IsItem(it) != good || ok != good {
					t.Errorf("the marks %d and %d: ItemText %v", a, b, ok)
				}
				if n, ok := impl.CountMarks([]impl.Item{it}); ok != good || len(n) != map[bool]int{true: 4}[good] {
					t.Errorf("the marks %d and %d: CountMarks %v, %v", a, b, n, ok)
				}
			})
		}
	}
	for what, it := range badItems() {
		calm(t, what, func() {
			impl.IsItem(it)
			impl.ItemText(it)
		})
	}
	for _, s := range []string{"", "\x00", "\xff", "\n", "\u20ac", "+", " ", strings.Repeat("A", 100000), strings.Repeat("A x\n", 100000), strings.Repeat("+", 1999), strings.Repeat("\xff", 2000), strings.Repeat("A\n", 14)} {
		calm(t, "calls with wild strings", func() {
			impl.IsName(s)
			impl.ParseItem(s)
			impl.ParseItems(s)
			impl.FirstWrong(s)
			impl.IsItem(impl.Item{Names: []string{s}, Marks: []int{math.MinInt}})
			impl.NamesIn([]impl.Item{{Names: []string{s, s}, Marks: []int{0, 0}}})
		})
	}
}

// sparedItems returns a copy of a list in which all slices have spare capacity, and
// a function that tells whether they and what is behind them are as they were.
func sparedItems(l []impl.Item) ([]impl.Item, func() bool) {
	var items, behind []impl.Item
	var names [][]string
	var marks []func() bool
	for _, it := range l {
		longer := append(slices.Clone(it.Names), "ZZZZZ", "bad")
		names = append(names, longer)
		spare, same := spared(it.Marks)
		marks = append(marks, same)
		items = append(items, impl.Item{Names: longer[:len(it.Names)], Marks: spare, Late: it.Late})
	}
	items = append(items, called("ZZZZZ", true, 3), called("bad", false, -77))
	behind = copiedItems(items)
	before := make([][]string, len(names))
	for i := range names {
		before[i] = slices.Clone(names[i])
	}
	return items[:len(l)], func() bool {
		for _, same := range marks {
			if !same() {
				return false
			}
		}
		return sameItems(items, behind) && slices.EqualFunc(names, before, slices.Equal[[]string])
	}
}

// spoilItem overwrites all that an item holds, with its spare capacity.
func spoilItem(it impl.Item) {
	spoilNames(it.Names)
	spoilNumbers(it.Marks)
}

func spoilItems(l []impl.Item) {
	for _, it := range l {
		spoilItem(it)
	}
	for i := range l[:cap(l)] {
		l[:cap(l)][i] = called("SPOIL", true, 12345)
	}
}

func spoilNames(l []string) {
	for i := range l[:cap(l)] {
		l[:cap(l)][i] = "SPOIL"
	}
}

func TestPromise33ListsAreLeftAsTheyAre(t *testing.T) {
	for _, original := range someLists() {
		l, same := sparedItems(original)
		other, otherSame := sparedItems(mixedItems(5, 7))
		impl.AreItems(l)
		for _, it := range l {
			impl.IsItem(it)
			impl.ItemText(it)
		}
		impl.ItemsText(l)
		impl.SameCalls(l, other)
		impl.SameCalls(l, l)
		clean, _ := impl.CleanItems(l)
		spoilItems(clean)
		counts, _ := impl.CountMarks(l)
		spoilNumbers(counts)
		names, _ := impl.NamesIn(l)
		spoilNames(names)
		if !same() || !otherSame() {
			t.Errorf("%+v is changed", original)
		}
	}
}

// checkOwnMemory checks that the slices of a result share memory neither with one another nor with those of a further result.
func checkOwnMemory(t *testing.T, what string, call func() []impl.Item) {
	t.Helper()
	first, second := call(), call()
	if len(first) == 0 || !sameItems(first, second) {
		t.Errorf("%s: %+v and %+v", what, first, second)
	}
	kept := copiedItems(second)
	for i := range second {
		// One slice after the other: all that are not yet overwritten must be as they were.
		spoilNames(second[i].Names)
		if !slices.Equal(second[i].Marks, kept[i].Marks) || !sameItems(second[i+1:], kept[i+1:]) {
			t.Errorf("%s: the names of item %d share memory with another part", what, i)
		}
		spoilNumbers(second[i].Marks)
		if !sameItems(second[i+1:], kept[i+1:]) {
			t.Errorf("%s: the marks of item %d share memory with another part", what, i)
		}
	}
	spoilItems(second)
	if !sameItems(first, kept) || !sameItems(call(), kept) {
		t.Errorf("%s: two results share memory", what)
	}
}

func TestPromise33ResultsOfListsShareNothing(t *testing.T) {
	calls := map[string]func() []impl.Item{
		"CleanItems": func() []impl.Item { l, _ := impl.CleanItems(someItems()); return l },
		"ParseItems": func() []impl.Item { l, _ := impl.ParseItems(someItemsText); return l },
		"ParseItem":  func() []impl.Item { it, _ := impl.ParseItem("3A<+2T+EX* x"); return []impl.Item{it} },
	}
	for what, call := range calls {
		checkOwnMemory(t, what, call)
	}
	counts, _ := impl.CountMarks(someItems())
	spoilNumbers(counts)
	names, _ := impl.NamesIn(someItems())
	spoilNames(names)
	counts, _ = impl.CountMarks(someItems())
	names, _ = impl.NamesIn(someItems())
	if !slices.Equal(counts, []int{3, 3, 2, 3}) || !slices.Equal(names, []string{"2T", "3A", "9", "CSP", "STSQ", "Z0Z0Z"}) {
		t.Errorf("results are kept: %v, %v", counts, names)
	}
}
