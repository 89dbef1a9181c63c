package tests

import (
	"fmt"
	"reflect"
	"regexp"
	"slices"
	"strconv"
	"strings"
	"testing"

	"loop.example/g00912/impl"
)

// changes are those of lines as a history's text has them, with a ; between them. A number may stand for a mark.
func changes(text string) []impl.Change {
	var h []impl.Change
	for _, line := range strings.Split(text, ";") {
		words := strings.Fields(line)
		if len(words) == 0 {
			continue
		}
		var numbers [5]int
		for i := range numbers {
			n, err := strconv.Atoi(words[i])
			if err != nil {
				n = strings.Index("none down edge void", words[i]) / 5
			}
			numbers[i] = n
		}
		h = append(h, impl.Change{Tick: numbers[0], Caller: numbers[1], Item: numbers[2], Name: numbers[3], Mark: numbers[4], Review: len(words) > 5})
	}
	return h
}

// markedList has names several times, and each mark at a name.
func markedList() []impl.Item {
	return []impl.Item{called("3A 2T", false, 0, 1), called("CSP", true, 2), called("2T 2T 3A", false, 3, 0, 1), called("STSQ", true, 0)}
}

// someChanges are a history of markedList with several changes at a tick, reviews of two names at once, one that ends, one that is opened again, and open ones.
func someChanges() []impl.Change {
	return changes("5 1 0 0 down; 5 2 2 1 none review; 5 9 0 0 down review; 8 2 2 1 edge; 8 2 2 1 edge review; 20 3 1 0 none; 20 1 0 0 void; 100000 4 3 0 none review; 100000 1 1 0 none")
}

// plainState carries out changes one after the other. It returns the list behind them, the names
// under review in lexicographic order, and whether the changes are a history of the list.
func plainState(l []impl.Item, h []impl.Change) ([]impl.Item, [][]int, bool) {
	l = copiedItems(l)
	under := map[[2]int]bool{}
	tick := 0
	for _, x := range h {
		if x.Tick < tick || x.Tick > 100000 || x.Caller < 1 || x.Caller > 9 || x.Mark < 0 || x.Mark > 3 {
			return nil, nil, false
		}
		if x.Item < 0 || x.Item >= len(l) || x.Name < 0 || x.Name >= len(l[x.Item].Names) {
			return nil, nil, false
		}
		mark, at := &l[x.Item].Marks[x.Name], [2]int{x.Item, x.Name}
		if x.Review && (*mark != x.Mark || under[at]) {
			return nil, nil, false
		}
		tick, *mark, under[at] = x.Tick, x.Mark, x.Review
	}
	var open [][]int
	for _, at := range namesOfItems(l) {
		if under[[2]int{at[0], at[1]}] {
			open = append(open, at)
		}
	}
	return l, open, len(h) <= 60
}

// plainTakeBack is the change that TakeBack adds.
func plainTakeBack(l []impl.Item, h []impl.Change, tick, caller int) (impl.Change, bool) {
	for k := len(h) - 1; k >= 0; k-- {
		if !h[k].Review {
			before, _, _ := plainState(l, h[:k])
			x := impl.Change{Tick: tick, Caller: caller, Item: h[k].Item, Name: h[k].Name, Mark: before[h[k].Item].Marks[h[k].Name]}
			_, _, ok := plainState(l, behind(h, x))
			return x, ok
		}
	}
	return impl.Change{}, false
}

func plainLine(x impl.Change) string {
	return fmt.Sprint(x.Tick, " ", x.Caller, " ", x.Item, " ", x.Name, " ", []string{"none", "down", "edge", "void"}[x.Mark], map[bool]string{true: " review"}[x.Review], "\n")
}

func plainLines(h []impl.Change) string {
	text := ""
	for _, x := range h {
		text += plainLine(x)
	}
	return text
}

// behind is a history with further changes.
func behind(h []impl.Change, more ...impl.Change) []impl.Change { return slices.Concat(h, more) }

func upTo(h []impl.Change, tick int) []impl.Change {
	var first []impl.Change
	for _, x := range h {
		if x.Tick <= tick {
			first = append(first, x)
		}
	}
	return first
}

func lastTickOf(h []impl.Change) int {
	if len(h) == 0 {
		return 0
	}
	return h[len(h)-1].Tick
}

// mixedChanges are a history of n changes, of few names of a list or of many.
func mixedChanges(seed, n int, l []impl.Item) []impl.Change {
	next := mixing(seed)
	names := namesOfItems(l)
	var h []impl.Change
	tick := next(3)
	for len(h) < n && len(names) > 0 {
		at := names[next(min(len(names), 1+seed%7))]
		x := impl.Change{Tick: tick, Caller: 1 + next(9), Item: at[0], Name: at[1], Mark: next(4), Review: next(3) == 0}
		if state, _, _ := plainState(l, h); x.Review {
			x.Mark = state[at[0]].Marks[at[1]]
		}
		if _, _, ok := plainState(l, behind(h, x)); ok {
			h = append(h, x)
			tick += []int{0, 0, 1, 2, 1600}[next(5)]
		}
	}
	return h
}

// manyHistories calls a function with histories of 0 to 60 changes of lists of 0 to 14 items, some of them with marks.
func manyHistories(seeds int, do func(l []impl.Item, h []impl.Change)) {
	do(markedList(), someChanges())
	for seed := range seeds {
		l := mixedItems(seed, seed%15)
		if seed%3 == 0 {
			l = unmarked(l)
		}
		do(l, mixedChanges(seed, []int{0, 1, 2, 5, 12, 30, 59, 60}[seed%8], l))
	}
}

// historyTexts is a short text of a list and changes for what tests report.
func historyTexts(l []impl.Item, h []impl.Change) string {
	return fmt.Sprintf("%s: %v", plainTexts(l), h)
}

// ticksAround are the ticks at, before and behind those of changes.
func ticksAround(h []impl.Change) []int {
	ticks := []int{0, 1, 99999, 100000}
	for _, x := range h {
		ticks = append(ticks, max(0, x.Tick-1), x.Tick, min(100000, x.Tick+1))
	}
	slices.Sort(ticks)
	return slices.Compact(ticks)
}

// checkHistory checks all that is told of a history against what the plain functions say.
func checkHistory(t *testing.T, l []impl.Item, h []impl.Change) {
	t.Helper()
	what := historyTexts(l, h)
	if is, ok := impl.IsHistory(l, h); !is || !ok {
		t.Errorf("%s: IsHistory = %v, %v", what, is, ok)
	}
	final, open, _ := plainState(l, h)
	for _, tick := range ticksAround(h) {
		want, _, _ := plainState(l, upTo(h, tick))
		if x, ok := impl.StateAt(l, h, tick); !sameItems(x, want) || !ok {
			t.Errorf("%s: StateAt %d = %s, %v; want %s", what, tick, plainTexts(x), ok, plainTexts(want))
		}
	}
	if x, ok := impl.FinalState(l, h); !sameItems(x, final) || !ok {
		t.Errorf("%s: FinalState = %s, %v; want %s", what, plainTexts(x), ok, plainTexts(final))
	}
	if x, ok := impl.OpenReviews(l, h); !sameRows(x, open) || !ok {
		t.Errorf("%s: OpenReviews = %v, %v; want %v", what, x, ok, open)
	}
	text := plainLines(h)
	if s, ok := impl.HistoryText(l, h); s != text || !ok {
		t.Errorf("%s: HistoryText = %q, %v; want %q", what, s, ok, text)
	}
	if x, ok := impl.ParseHistory(l, text); !slices.Equal(x, h) || !ok {
		t.Errorf("%s: ParseHistory of %q = %v, %v", what, text, x, ok)
	}
	checkNames(t, l, h)
	checkTakeBack(t, l, h, lastTickOf(h), 1+len(h)%9)
}

// checkNames checks what is told of each name of a list.
func checkNames(t *testing.T, l []impl.Item, h []impl.Change) {
	t.Helper()
	for _, at := range namesOfItems(l) {
		last, callers := -1, []int{}
		for k, x := range h {
			if x.Item == at[0] && x.Name == at[1] {
				last = k
			}
		}
		for caller := 1; caller <= 9; caller++ {
			if slices.ContainsFunc(h, func(x impl.Change) bool { return x.Item == at[0] && x.Name == at[1] && x.Caller == caller }) {
				callers = append(callers, caller)
			}
		}
		if k, ok := impl.LastChange(l, h, at[0], at[1]); k != max(0, last) || ok != (last >= 0) {
			t.Errorf("%s: LastChange at %v = %d, %v; want %d", historyTexts(l, h), at, k, ok, last)
		}
		if x, ok := impl.CallersOf(l, h, at[0], at[1]); !slices.Equal(x, callers) || !ok {
			t.Errorf("%s: CallersOf at %v = %v, %v; want %v", historyTexts(l, h), at, x, ok, callers)
		}
	}
}

func checkTakeBack(t *testing.T, l []impl.Item, h []impl.Change, tick, caller int) {
	t.Helper()
	var want []impl.Change
	x, can := plainTakeBack(l, h, tick, caller)
	if can {
		want = behind(h, x)
	}
	if longer, ok := impl.TakeBack(l, h, tick, caller); !slices.Equal(longer, want) || ok != can {
		t.Errorf("%s: TakeBack at %d by %d = %v, %v; want %v", historyTexts(l, h), tick, caller, longer, ok, want)
	}
}

// historyAnswers are those of all functions but IsHistory, at each name, at some ticks and by some callers.
func historyAnswers(l []impl.Item, h []impl.Change) map[string]answer {
	answers := map[string]answer{}
	add := func(what string, value any, ok bool) { answers[what] = answer{value, ok} }
	final, ok := impl.FinalState(l, h)
	add("FinalState", final, ok)
	open, ok := impl.OpenReviews(l, h)
	add("OpenReviews", open, ok)
	text, ok := impl.HistoryText(l, h)
	add("HistoryText", text, ok)
	for _, tick := range []int{0, 5, 100000} {
		state, ok := impl.StateAt(l, h, tick)
		add(fmt.Sprint("StateAt ", tick), state, ok)
		longer, ok := impl.TakeBack(l, h, tick, 1)
		add(fmt.Sprint("TakeBack at ", tick), longer, ok)
	}
	for i, it := range l[:min(len(l), 15)] {
		for k := range it.Names[:min(len(it.Names), 4)] {
			at := fmt.Sprint(" at ", i, " ", k)
			callers, ok := impl.CallersOf(l, h, i, k)
			add("CallersOf"+at, callers, ok)
			last, ok := impl.LastChange(l, h, i, k)
			add("LastChange"+at, last, ok)
			longer, ok := impl.AddChange(l, h, impl.Change{Tick: 100000, Caller: 1 + i%9, Item: i, Name: k, Mark: (i + k) % 4})
			add("AddChange"+at, longer, ok)
		}
	}
	return answers
}

// checkNoHistory checks that all functions fail for changes that are no history of a list.
func checkNoHistory(t *testing.T, what string, l []impl.Item, h []impl.Change) {
	t.Helper()
	calm(t, what, func() {
		if is, ok := impl.IsHistory(l, h); is || ok != impl.AreItems(l) {
			t.Errorf("%s: IsHistory = %v, %v", what, is, ok)
		}
		for name, a := range historyAnswers(l, h) {
			if a.ok || !isNothing(reflect.ValueOf(a.value)) {
				t.Errorf("%s: %s = %.300s, %v", what, name, fmt.Sprint(a.value), a.ok)
			}
		}
	})
}

// goodChanges are histories of markedList at the bounds.
func goodChanges() map[string][]impl.Change {
	good := map[string][]impl.Change{
		"none":                                  nil,
		"none, empty":                           {},
		"some":                                  someChanges(),
		"60":                                    slices.Repeat(changes("7 1 0 0 down"), 60),
		"60 different ones":                     mixedChanges(6, 60, markedList()),
		"the ticks 0 and 100000":                changes("0 1 0 0 none; 100000 1 0 0 none"),
		"equal ticks":                           changes("0 1 0 0 none; 0 1 0 0 none; 9 1 1 0 down; 9 1 0 1 down; 9 1 3 0 down; 100000 1 0 0 none; 100000 1 0 0 none"),
		"the callers 1 and 9":                   changes("0 9 0 0 none; 0 1 0 0 down; 0 9 0 0 edge"),
		"no other mark":                         changes("3 1 0 1 down; 4 1 0 1 down"),
		"a review of an unchanged name":         changes("3 1 0 0 none review"),
		"a review of the mark of the list":      changes("3 1 0 1 down review; 3 1 1 0 edge review; 3 1 2 0 void review; 3 1 3 0 none review"),
		"a review of a mark that was given":     changes("3 1 0 0 void; 3 2 0 0 void review"),
		"a review that ends with the same mark": changes("3 1 0 1 down review; 3 1 0 1 down"),
		"a review that ends, and a new one":     changes("3 1 0 1 down review; 4 1 0 1 edge; 4 1 0 1 edge review; 5 1 0 1 edge; 6 1 0 1 edge review"),
		"reviews of two names of an item":       changes("3 1 2 2 down review; 3 1 2 1 none review; 3 1 2 0 void review"),
		"reviews of two items":                  changes("3 1 1 0 edge review; 3 1 0 0 none review; 3 1 0 0 down; 4 1 0 0 down review; 4 1 1 0 down"),
		"a change of another name under review": changes("3 1 0 0 none review; 3 1 0 1 void; 3 1 2 0 none; 4 1 0 1 void review"),
	}
	for _, at := range namesOfItems(markedList()) {
		for mark := range 4 {
			good[fmt.Sprint("the mark ", mark, " at ", at)] = []impl.Change{{Caller: 1, Item: at[0], Name: at[1], Mark: mark}, {Tick: 1, Caller: 1, Item: at[0], Name: at[1], Mark: mark, Review: true}}
		}
		for caller := 1; caller <= 9; caller++ {
			good[fmt.Sprint("the caller ", caller, " at ", at)] = []impl.Change{{Tick: 7, Caller: caller, Item: at[0], Name: at[1]}}
		}
	}
	return good
}

// wrongChanges are changes that no history of markedList has.
func wrongChanges() map[string]impl.Change {
	wrong := map[string]impl.Change{
		"tick -1": {Tick: -1, Caller: 1}, "tick 100001": {Tick: 100001, Caller: 1}, "caller 0": {Tick: 100000}, "caller 10": {Tick: 100000, Caller: 10},
		"item -1": {Tick: 100000, Caller: 1, Item: -1}, "item 4": {Tick: 100000, Caller: 1, Item: 4}, "item 14": {Tick: 100000, Caller: 1, Item: 14},
		"mark -1": {Tick: 100000, Caller: 1, Mark: -1}, "mark 4": {Tick: 100000, Caller: 1, Mark: 4},
	}
	for item, names := range []int{2, 1, 3, 1} {
		wrong[fmt.Sprint("no name -1 of ", item)] = impl.Change{Tick: 100000, Caller: 1, Item: item, Name: -1}
		wrong[fmt.Sprint("one name more of ", item)] = impl.Change{Tick: 100000, Caller: 1, Item: item, Name: names}
	}
	for _, n := range wild {
		x := impl.Change{Tick: 100000, Caller: 1, Item: 2}
		for what, wild := range map[string]impl.Change{
			"tick": {Tick: n, Caller: 1}, "caller": {Tick: 100000, Caller: n}, "item": {Tick: 100000, Caller: 1, Item: n},
			"name": {Tick: 100000, Caller: 1, Item: 2, Name: n}, "mark": {Tick: 100000, Caller: 1, Mark: n},
		} {
			if n < 0 || n > 100000 || n > 9 && what != "tick" || n == 0 && what == "caller" || n > 3 && what != "tick" && what != "caller" {
				wrong[fmt.Sprint(what, " ", n)] = wild
			}
		}
		if n < 0 || n > 3 {
			x.Mark, x.Review = n, true
			wrong[fmt.Sprint("a review of mark ", n)] = x
		}
	}
	return wrong
}

// badChanges are no histories of markedList, each for one reason.
func badChanges() map[string][]impl.Change {
	bad := map[string][]impl.Change{
		"61":                           slices.Repeat(changes("7 1 0 0 down"), 61),
		"61 different ones":            behind(mixedChanges(6, 60, markedList()), impl.Change{Tick: 100000, Caller: 1}),
		"10000":                        slices.Repeat(changes("7 1 0 0 down"), 10000),
		"a tick falls":                 changes("5 1 0 0 none; 4 1 0 0 none"),
		"a tick falls, other names":    changes("5 1 0 0 none; 4 1 3 0 none"),
		"a tick falls to 0":            changes("1 1 0 0 none; 0 1 0 0 none"),
		"a tick falls at the end":      behind(someChanges(), impl.Change{Tick: 99999, Caller: 1}),
		"the tick of a review falls":   changes("5 1 0 0 none; 4 1 3 0 none review"),
		"a tick falls below an older":  changes("5 1 0 0 none; 9 1 0 0 none; 7 1 0 0 none"),
		"another mark":                 changes("5 1 0 0 down review"),
		"no mark of the list":          changes("5 1 0 1 none review"),
		"the mark of the list, not it": changes("5 1 0 1 void; 5 1 0 1 down review"),
		"the mark of another name":     changes("5 1 0 0 down; 5 1 3 0 down review"),
		"a mark that comes later":      changes("5 1 0 0 down review; 5 1 0 0 down"),
		"a mark before the last one":   changes("5 1 0 0 down; 5 1 0 0 edge; 6 1 0 0 down review"),
		"two reviews":                  changes("5 1 0 0 none review; 5 1 0 0 none review"),
		"two reviews of two callers":   changes("5 1 0 0 none review; 6 2 0 0 none review"),
		"two reviews around another":   changes("5 1 0 1 down review; 5 1 0 0 void; 6 1 3 0 none review; 7 1 0 1 down review"),
		"a third review":               changes("5 1 0 0 none review; 5 1 0 0 none; 6 1 0 0 none review; 7 1 0 0 none review"),
		"a review after a given mark":  changes("5 1 0 0 edge; 5 1 0 0 edge review; 5 1 1 0 down; 5 1 0 0 edge review"),
	}
	for what, x := range wrongChanges() {
		bad[what+" alone"] = []impl.Change{x}
		// All others come at the last tick, as most of the wrong ones do, so that no tick falls but a wrong one.
		earlier, later := changes("100000 1 0 0 down; 100000 2 2 1 none review; 100000 9 0 0 down review; 100000 2 2 1 edge"), changes("100000 2 3 0 edge")
		for at := range len(earlier) + 1 {
			bad[fmt.Sprint(what, " at ", at)] = slices.Concat(earlier[:at], []impl.Change{x}, later)
		}
	}
	return bad
}

func TestIsHistory(t *testing.T) {
	if impl.MaxHistory != 60 {
		t.Error("MaxHistory", impl.MaxHistory)
	}
	for what, h := range goodChanges() {
		if _, _, ok := plainState(markedList(), h); !ok {
			t.Errorf("%s: the test is wrong", what)
		}
		checkHistory(t, markedList(), h)
	}
	for what, h := range badChanges() {
		if _, _, ok := plainState(markedList(), h); ok {
			t.Errorf("%s: the test is wrong", what)
		}
		checkNoHistory(t, what, markedList(), h)
	}
}

// A number at its bounds and one beyond them, in a change that is the only one and in one behind others.
func TestBoundsOfChanges(t *testing.T) {
	for _, w := range []struct {
		text string
		is   bool
	}{
		{"-1 1 0 0 none", false}, {"0 1 0 0 none", true}, {"100000 1 0 0 none", true}, {"100001 1 0 0 none", false},
		{"3 0 0 0 none", false}, {"3 1 0 0 none", true}, {"3 9 0 0 none", true}, {"3 10 0 0 none", false},
		{"3 1 -1 0 none", false}, {"3 1 3 0 none", true}, {"3 1 4 0 none", false},
		{"3 1 0 -1 none", false}, {"3 1 0 1 none", true}, {"3 1 0 2 none", false}, {"3 1 1 1 none", false}, {"3 1 2 2 none", true}, {"3 1 2 3 none", false},
		{"3 1 0 0 -1", false}, {"3 1 0 0 0", true}, {"3 1 0 0 3", true}, {"3 1 0 0 4", false},
		{"3 1 0 1 -1 review", false}, {"3 1 0 1 0 review", false}, {"3 1 0 1 1 review", true}, {"3 1 0 1 2 review", false}, {"3 1 0 1 4 review", false},
		{"3 1 0 0 none; 3 1 0 0 none", true}, {"3 1 0 0 none; 4 1 0 0 none", true}, {"3 1 0 0 none; 2 1 0 0 none", false},
	} {
		if is, ok := impl.IsHistory(markedList(), changes(w.text)); is != w.is || !ok {
			t.Errorf("IsHistory of %s = %v, %v", w.text, is, ok)
		}
		if is, ok := impl.IsHistory(markedList(), changes("0 1 3 0 void; "+w.text)); is != w.is || !ok {
			t.Errorf("IsHistory of a change and %s = %v, %v", w.text, is, ok)
		}
	}
}

// All histories of one name with two or three changes, for each mark that it has in the list.
func TestHistoriesOfOneName(t *testing.T) {
	histories := 0
	for first := range 4 {
		l := []impl.Item{called("2T", false, first)}
		for n := range 8 * 8 * 8 {
			h := []impl.Change{{Tick: 1, Caller: 1}, {Tick: 2, Caller: 2}, {Tick: 3, Caller: 3}}
			for i, code := range []int{n % 8, n / 8 % 8, n / 64} {
				h[i].Mark, h[i].Review = code%4, code > 3
			}
			for _, h := range [][]impl.Change{h, h[:2]} {
				if _, _, ok := plainState(l, h); ok {
					histories++
					checkHistory(t, l, h)
				} else {
					checkNoHistory(t, historyTexts(l, h), l, h)
				}
			}
		}
	}
	if histories < 500 {
		t.Errorf("only %d histories", histories)
	}
}

func TestHistoriesOfLists(t *testing.T) {
	for _, l := range append(someLists(), markedList()) {
		checkHistory(t, l, nil)
		checkHistory(t, l, []impl.Change{})
		for _, at := range namesOfItems(l) {
			mark := l[at[0]].Marks[at[1]]
			checkHistory(t, l, []impl.Change{{Tick: 9, Caller: 9, Item: at[0], Name: at[1], Mark: 3 - mark}})
			checkHistory(t, l, []impl.Change{{Tick: 9, Caller: 9, Item: at[0], Name: at[1], Mark: mark, Review: true}})
			for other := range 4 {
				if other != mark {
					h := []impl.Change{{Tick: 9, Caller: 9, Item: at[0], Name: at[1], Mark: other, Review: true}}
					checkNoHistory(t, historyTexts(l, h), l, h)
				}
			}
		}
		for i, it := range l {
			h := []impl.Change{{Tick: 9, Caller: 9, Item: i, Name: len(it.Names)}}
			checkNoHistory(t, historyTexts(l, h), l, h)
		}
		h := []impl.Change{{Tick: 9, Caller: 9, Item: len(l)}}
		checkNoHistory(t, historyTexts(l, h), l, h)
	}
}

func TestStateAt(t *testing.T) {
	h := changes("0 1 0 0 down; 5 1 0 0 edge; 5 1 1 0 none; 5 1 0 0 void; 5 2 0 0 void review; 9 3 2 1 edge; 100000 1 0 0 none")
	for _, w := range []struct {
		tick int
		text string
	}{
		{0, "3A<+2T<, CSPe x, 2T*+2T+3A<, STSQ x"}, {1, "3A<+2T<, CSPe x, 2T*+2T+3A<, STSQ x"}, {4, "3A<+2T<, CSPe x, 2T*+2T+3A<, STSQ x"},
		{5, "3A*+2T<, CSP x, 2T*+2T+3A<, STSQ x"}, {6, "3A*+2T<, CSP x, 2T*+2T+3A<, STSQ x"}, {8, "3A*+2T<, CSP x, 2T*+2T+3A<, STSQ x"},
		{9, "3A*+2T<, CSP x, 2T*+2Te+3A<, STSQ x"}, {99999, "3A*+2T<, CSP x, 2T*+2Te+3A<, STSQ x"}, {100000, "3A+2T<, CSP x, 2T*+2Te+3A<, STSQ x"},
	} {
		if x, ok := impl.StateAt(markedList(), h, w.tick); plainTexts(x) != w.text || !ok {
			t.Errorf("StateAt %d = %s, %v; want %s", w.tick, plainTexts(x), ok, w.text)
		}
	}
	// Before the first change it is the list itself.
	for tick := range 5 {
		if x, ok := impl.StateAt(markedList(), someChanges(), tick); !sameItems(x, markedList()) || !ok {
			t.Errorf("StateAt %d = %s, %v", tick, plainTexts(x), ok)
		}
	}
	for _, tick := range append([]int{-1, 100001}, wild...) {
		for _, h := range [][]impl.Change{nil, h, someChanges()} {
			x, ok := impl.StateAt(markedList(), h, tick)
			if there := 0 <= tick && tick <= 100000; ok != there || len(x) > 0 != there {
				t.Errorf("StateAt %d = %s, %v", tick, plainTexts(x), ok)
			}
		}
	}
}

func TestFinalState(t *testing.T) {
	for _, w := range []struct{ changes, final string }{
		{"", "3A+2T<, CSPe x, 2T*+2T+3A<, STSQ x"},
		{"3 1 0 0 down", "3A<+2T<, CSPe x, 2T*+2T+3A<, STSQ x"},
		{"3 1 0 0 down; 3 1 0 0 edge", "3Ae+2T<, CSPe x, 2T*+2T+3A<, STSQ x"},
		{"3 1 0 1 none; 4 1 0 1 none review", "3A+2T, CSPe x, 2T*+2T+3A<, STSQ x"},
		{"0 1 0 1 down review", "3A+2T<, CSPe x, 2T*+2T+3A<, STSQ x"},
		{"100000 1 2 0 none; 100000 1 2 1 down; 100000 1 2 2 edge; 100000 1 3 0 void; 100000 1 3 0 void review", "3A+2T<, CSPe x, 2T+2T<+3Ae, STSQ* x"},
	} {
		if x, ok := impl.FinalState(markedList(), changes(w.changes)); plainTexts(x) != w.final || !ok {
			t.Errorf("FinalState after %s = %s, %v; want %s", w.changes, plainTexts(x), ok, w.final)
		}
	}
	if x, ok := impl.FinalState(nil, nil); len(x) != 0 || !ok {
		t.Errorf("FinalState of no items = %s, %v", plainTexts(x), ok)
	}
}

func TestOpenReviews(t *testing.T) {
	for _, w := range []struct {
		changes string
		open    [][]int
	}{
		{"", nil}, {"3 1 0 0 down", nil}, {"3 1 0 0 none review", [][]int{{0, 0}}}, {"3 1 0 0 none review; 3 1 0 0 none", nil}, {"3 1 0 0 none review; 4 2 0 0 void", nil},
		{"3 1 0 0 none review; 4 2 0 0 void; 4 2 0 0 void review", [][]int{{0, 0}}}, {"3 1 0 0 none review; 4 2 0 1 void", [][]int{{0, 0}}},
		{"3 1 3 0 none review; 3 1 2 2 down review; 3 1 0 1 down review; 3 1 2 0 void review; 3 1 1 0 edge review", [][]int{{0, 1}, {1, 0}, {2, 0}, {2, 2}, {3, 0}}},
		{"3 1 3 0 none review; 3 1 2 2 down review; 3 1 0 1 down review; 3 1 2 0 void review; 3 1 1 0 edge review; 4 1 2 0 void; 5 1 0 1 none", [][]int{{1, 0}, {2, 2}, {3, 0}}},
		{"3 1 2 1 none review; 3 1 2 0 void review; 3 1 0 1 down review; 3 1 0 0 none review", [][]int{{0, 0}, {0, 1}, {2, 0}, {2, 1}}},
	} {
		if x, ok := impl.OpenReviews(markedList(), changes(w.changes)); !sameRows(x, w.open) || !ok {
			t.Errorf("OpenReviews after %s = %v, %v; want %v", w.changes, x, ok, w.open)
		}
	}
	// All names of a long list, opened from the last one to the first one.
	l := longestItems()
	var h []impl.Change
	for _, at := range slices.Backward(namesOfItems(l)) {
		h = append(h, impl.Change{Tick: 3, Caller: 1, Item: at[0], Name: at[1], Mark: l[at[0]].Marks[at[1]], Review: true})
	}
	if x, ok := impl.OpenReviews(l, h); !sameRows(x, namesOfItems(l)) || !ok {
		t.Errorf("OpenReviews of all names = %v, %v", x, ok)
	}
}

func TestAddChange(t *testing.T) {
	next := mixing(3)
	var h []impl.Change
	for k, x := range mixedChanges(12, 60, markedList()) {
		longer, ok := impl.AddChange(markedList(), h, x)
		if !slices.Equal(longer, behind(h, x)) || !ok {
			t.Fatalf("AddChange of change %d = %v, %v", k, longer, ok)
		}
		h = longer
		checkHistory(t, markedList(), h)
		for what, wrong := range wrongChanges() {
			if longer, ok := impl.AddChange(markedList(), h, wrong); len(longer) != 0 || ok {
				t.Errorf("AddChange with %s = %v, %v", what, longer, ok)
			}
		}
		// A review must have the mark of its name, and be the only one that is open; ticks must not fall.
		for range 20 {
			at := namesOfItems(markedList())[next(7)]
			x := impl.Change{Tick: max(0, lastTickOf(h)-next(2)), Caller: 1 + next(9), Item: at[0], Name: at[1], Mark: next(4), Review: next(4) > 0}
			_, _, can := plainState(markedList(), behind(h, x))
			longer, ok := impl.AddChange(markedList(), h, x)
			if ok != can || can && !slices.Equal(longer, behind(h, x)) || !can && len(longer) != 0 {
				t.Errorf("%v: AddChange of %+v = %v, %v", h, x, longer, ok)
			}
		}
	}
	if len(h) != 60 {
		t.Errorf("only %d changes", len(h))
	}
	for _, x := range []impl.Change{{Tick: 100000, Caller: 1}, {Tick: lastTickOf(h), Caller: 1}, {}} {
		if longer, ok := impl.AddChange(markedList(), h, x); len(longer) != 0 || ok {
			t.Errorf("AddChange of a 61st change = %v, %v", longer, ok)
		}
	}
}

// A further change makes no history of what is none.
func TestAddChangeToNoHistory(t *testing.T) {
	for what, h := range badChanges() {
		for _, x := range changes("100000 1 0 0 none; 100000 1 0 1 down; 100000 1 2 1 edge; 100000 9 3 0 none") {
			if longer, ok := impl.AddChange(markedList(), h, x); len(longer) != 0 || ok {
				t.Errorf("%s: AddChange = %v, %v", what, longer, ok)
			}
		}
	}
}

func TestCallersOf(t *testing.T) {
	h := changes("1 9 0 0 down; 1 3 0 0 edge; 2 9 0 0 edge review; 2 1 0 0 edge; 3 3 0 0 none; 3 5 2 0 none; 3 4 2 1 down; 4 5 2 0 none review; 4 2 1 0 edge review")
	for _, w := range []struct {
		item, name int
		callers    []int
	}{
		{0, 0, []int{1, 3, 9}}, {0, 1, nil}, {1, 0, []int{2}}, {2, 0, []int{5}}, {2, 1, []int{4}}, {2, 2, nil}, {3, 0, nil},
	} {
		if x, ok := impl.CallersOf(markedList(), h, w.item, w.name); !slices.Equal(x, w.callers) || !ok {
			t.Errorf("CallersOf name %d of item %d = %v, %v; want %v", w.name, w.item, x, ok, w.callers)
		}
	}
	// All callers, the greatest one first, each one twice.
	var all []impl.Change
	for caller := 9; caller >= 1; caller-- {
		all = append(all, impl.Change{Tick: 10 - caller, Caller: caller}, impl.Change{Tick: 10 - caller, Caller: caller})
	}
	if x, ok := impl.CallersOf(markedList(), all, 0, 0); !slices.Equal(x, []int{1, 2, 3, 4, 5, 6, 7, 8, 9}) || !ok {
		t.Errorf("CallersOf = %v, %v", x, ok)
	}
}

func TestLastChange(t *testing.T) {
	h := changes("1 9 0 0 down; 1 3 0 0 edge; 2 9 0 0 edge review; 3 5 2 0 none; 3 4 2 1 down; 4 5 2 0 none review; 4 2 2 0 edge; 5 2 2 2 edge")
	for _, w := range []struct{ item, name, last int }{
		{0, 0, 2}, {0, 1, -1}, {1, 0, -1}, {2, 0, 6}, {2, 1, 4}, {2, 2, 7}, {3, 0, -1},
	} {
		if k, ok := impl.LastChange(markedList(), h, w.item, w.name); k != max(0, w.last) || ok != (w.last >= 0) {
			t.Errorf("LastChange of name %d of item %d = %d, %v; want %d", w.name, w.item, k, ok, w.last)
		}
	}
	// The first change of all is the last one of its name.
	if k, ok := impl.LastChange(markedList(), h[:1], 0, 0); k != 0 || !ok {
		t.Errorf("LastChange = %d, %v", k, ok)
	}
}

func TestHistoryOfNamesThatAreNotThere(t *testing.T) {
	for _, a := range append([]int{-3, 3, 4, 14}, wild...) {
		for _, b := range append([]int{-3, 3, 4, 14}, wild...) {
			there := slices.ContainsFunc(namesOfItems(markedList()), func(at []int) bool { return at[0] == a && at[1] == b })
			for _, h := range [][]impl.Change{nil, someChanges()} {
				calm(t, fmt.Sprint("name ", b, " of item ", a), func() {
					changed := slices.ContainsFunc(h, func(x impl.Change) bool { return x.Item == a && x.Name == b })
					if x, ok := impl.CallersOf(markedList(), h, a, b); ok != there || len(x) > 0 != changed {
						t.Errorf("CallersOf name %d of item %d = %v, %v", b, a, x, ok)
					}
					if k, ok := impl.LastChange(markedList(), h, a, b); ok != changed || k != 0 && !changed {
						t.Errorf("LastChange of name %d of item %d = %d, %v", b, a, k, ok)
					}
					if x, ok := impl.CallersOf(nil, nil, a, b); len(x) != 0 || ok {
						t.Errorf("CallersOf name %d of item %d of none = %v, %v", b, a, x, ok)
					}
					if k, ok := impl.LastChange(nil, nil, a, b); k != 0 || ok {
						t.Errorf("LastChange of name %d of item %d of none = %d, %v", b, a, k, ok)
					}
				})
			}
		}
	}
}

func TestTakeBack(t *testing.T) {
	for _, w := range []struct{ changes, further string }{
		{"5 1 0 0 down", "9 4 0 0 none"},
		// A first change of a name goes back to the mark of the list.
		{"5 1 0 1 none", "9 4 0 1 down"}, {"5 1 2 0 edge", "9 4 2 0 void"}, {"5 1 3 0 down; 5 1 1 0 void", "9 4 1 0 edge"},
		{"5 1 0 0 down; 6 1 0 0 edge", "9 4 0 0 down"}, {"5 1 0 0 down; 6 1 0 0 down", "9 4 0 0 down"}, {"5 1 0 0 down; 6 1 0 0 edge; 6 1 0 0 void", "9 4 0 0 edge"},
		{"5 1 0 0 down; 6 1 1 0 none; 7 1 0 0 edge; 8 1 1 0 void", "9 4 1 0 none"},
		// Reviews after it, of the same name and of others, open and ended.
		{"5 1 0 0 down; 6 1 0 0 down review", "9 4 0 0 none"}, {"5 1 0 0 down; 6 1 0 1 down review", "9 4 0 0 none"},
		{"5 1 0 0 down; 6 1 2 0 void review; 6 1 0 0 down review; 7 1 0 1 down review", "9 4 0 0 none"},
		{"5 1 0 0 none review; 6 1 0 0 void; 7 1 0 0 void review", "9 4 0 0 none"}, {"5 1 0 1 down review; 6 1 0 1 edge", "9 4 0 1 down"},
		{"5 1 0 0 edge; 5 1 0 0 edge review; 6 1 0 0 void", "9 4 0 0 edge"},
		{"5 1 0 0 edge; 5 1 0 0 edge review; 6 1 3 0 void; 7 1 2 1 none review", "9 4 3 0 none"},
		{"9 4 0 0 down; 9 4 0 0 down", "9 4 0 0 down"}, {"0 1 1 0 down", "9 4 1 0 edge"},
	} {
		h := changes(w.changes)
		x, ok := impl.TakeBack(markedList(), h, 9, 4)
		if want := behind(h, changes(w.further)...); !slices.Equal(x, want) || !ok {
			t.Errorf("TakeBack after %s = %v, %v; want %v", w.changes, x, ok, want)
		}
		checkHistory(t, markedList(), x)
	}
}

// What takes back is a change itself, so a second one gives again what the first one took.
func TestTakeBackTwice(t *testing.T) {
	h := changes("5 1 0 0 down; 5 1 0 0 edge; 6 2 0 0 edge review; 6 2 1 0 edge review")
	for i, mark := range []int{1, 2, 1, 2, 1} {
		x, ok := impl.TakeBack(markedList(), h, 6+i/2, 1+i)
		if want := behind(h, impl.Change{Tick: 6 + i/2, Caller: 1 + i, Mark: mark}); !slices.Equal(x, want) || !ok {
			t.Fatalf("TakeBack %d = %v, %v; want %v", i, x, ok, want)
		}
		h = x
		if open, ok := impl.OpenReviews(markedList(), h); !sameRows(open, [][]int{{1, 0}}) || !ok {
			t.Errorf("OpenReviews = %v, %v", open, ok)
		}
	}
}

func TestNothingToTakeBack(t *testing.T) {
	for _, text := range []string{"", "5 1 0 0 none review", "5 1 0 0 none review; 6 1 1 0 edge review; 6 1 2 2 down review"} {
		for _, tick := range []int{5, 6, 100000} {
			if x, ok := impl.TakeBack(markedList(), changes(text), tick, 1); len(x) != 0 || ok {
				t.Errorf("TakeBack after %s = %v, %v", text, x, ok)
			}
		}
	}
	if x, ok := impl.TakeBack(nil, nil, 0, 1); len(x) != 0 || ok {
		t.Errorf("TakeBack of no items = %v, %v", x, ok)
	}
	all := slices.Repeat(changes("7 1 0 0 down"), 60)
	for _, tick := range []int{7, 8, 100000} {
		if x, ok := impl.TakeBack(markedList(), all, tick, 1); len(x) != 0 || ok {
			t.Errorf("TakeBack after 60 changes = %v, %v", x, ok)
		}
		if x, ok := impl.TakeBack(markedList(), all[:59], tick, 1); !slices.Equal(x, behind(all[:59], impl.Change{Tick: tick, Caller: 1, Mark: 1})) || !ok {
			t.Errorf("TakeBack after 59 changes = %v, %v", x, ok)
		}
	}
}

func TestTakeBackAtTicksByCallers(t *testing.T) {
	h := changes("5 1 0 0 down; 8 1 0 0 down review")
	for _, n := range append([]int{4, 5, 7, 8, 9, 10, 99999, 100000, 100001}, wild...) {
		calm(t, fmt.Sprint("TakeBack with ", n), func() {
			x, ok := impl.TakeBack(markedList(), h, n, 3)
			if can := 8 <= n && n <= 100000; ok != can || can && !slices.Equal(x, behind(h, impl.Change{Tick: n, Caller: 3})) || !can && len(x) != 0 {
				t.Errorf("TakeBack at %d = %v, %v", n, x, ok)
			}
			x, ok = impl.TakeBack(markedList(), h, 8, n)
			if can := 1 <= n && n <= 9; ok != can || can && !slices.Equal(x, behind(h, impl.Change{Tick: 8, Caller: n})) || !can && len(x) != 0 {
				t.Errorf("TakeBack by %d = %v, %v", n, x, ok)
			}
			checkTakeBack(t, markedList(), someChanges(), 100000, n)
			checkTakeBack(t, markedList(), someChanges(), n, 1)
		})
	}
}

func TestHistoryText(t *testing.T) {
	h := changes("0 1 0 0 none; 7 2 0 1 down; 7 3 2 2 edge; 30 4 3 0 void; 400 5 0 0 none review; 400 6 0 1 down review; 5000 7 2 2 edge review; 100000 9 3 0 void review")
	want := "0 1 0 0 none\n7 2 0 1 down\n7 3 2 2 edge\n30 4 3 0 void\n400 5 0 0 none review\n400 6 0 1 down review\n5000 7 2 2 edge review\n100000 9 3 0 void review\n"
	if s, ok := impl.HistoryText(markedList(), h); s != want || !ok {
		t.Errorf("HistoryText = %q, %v", s, ok)
	}
	if x, ok := impl.ParseHistory(markedList(), want); !slices.Equal(x, h) || !ok {
		t.Errorf("ParseHistory = %v, %v", x, ok)
	}
	for _, l := range [][]impl.Item{nil, {}, markedList()} {
		if s, ok := impl.HistoryText(l, nil); s != "" || !ok {
			t.Errorf("HistoryText without changes = %q, %v", s, ok)
		}
		if x, ok := impl.ParseHistory(l, ""); len(x) != 0 || !ok {
			t.Errorf("ParseHistory of the empty text = %v, %v", x, ok)
		}
	}
	// The longest text: it has all digits that a text can have, in each line.
	l := longestItems()
	var long []impl.Change
	for range 30 {
		long = append(long, impl.Change{Tick: 100000, Caller: 9, Item: 13, Name: 2, Mark: 3}, impl.Change{Tick: 100000, Caller: 9, Item: 13, Name: 2, Mark: 3, Review: true})
	}
	checkHistory(t, l, long)
	var reviews []impl.Change
	for _, at := range namesOfItems(l) {
		reviews = append(reviews, impl.Change{Tick: 100000, Caller: 9, Item: at[0], Name: at[1], Mark: l[at[0]].Marks[at[1]], Review: true})
	}
	checkHistory(t, l, reviews)
}

func TestTextsThatAreNoHistory(t *testing.T) {
	good := "5 1 0 0 down\n6 2 0 1 down review\n"
	for _, s := range []string{
		// Blanks and newlines.
		" 5 1 0 0 down\n", "5 1 0 0 down \n", "5  1 0 0 down\n", "5 1  0 0 down\n", "5 1 0  0 down\n", "5 1 0 0  down\n", "6 2 0 1 down  review\n", "6 2 0 1 down review \n",
		"5 1 0 0 down", "5 1 0 0 down\n\n", "\n", "\n5 1 0 0 down\n", good + "\n", good[:13] + "\n" + good[13:], good[:len(good)-1], good + " ", good + " \n", " ", " \n",
		"5 1 0 0 down\r\n", "5\t1 0 0 down\n", "5 1 0 0 down\v\n", "5 1 0 0 down6 2 0 1 down review\n", "5\n1 0 0 down\n", "5 1 0 0\ndown\n", "5 1 0 0 down 6 2 0 1 down review\n",
		// Signs, zeros and other digits.
		"+5 1 0 0 down\n", "5 +1 0 0 down\n", "5 1 +0 0 down\n", "5 1 0 +0 down\n", "-0 1 0 0 down\n", "5 1 -0 0 down\n", "5 1 0 -0 down\n", "-5 1 0 0 down\n", "5 -1 0 0 down\n",
		"05 1 0 0 down\n", "00 1 0 0 down\n", "5 01 0 0 down\n", "5 1 00 0 down\n", "5 1 0 00 down\n", "5 1 01 0 down\n", "5. 1 0 0 down\n", "5.0 1 0 0 down\n", "5e0 1 0 0 down\n", "0x5 1 0 0 down\n", "1_0 1 0 0 down\n", "\u0665 1 0 0 down\n", "\uff15 1 0 0 down\n",
		// Numbers that are too great.
		"100001 1 0 0 down\n", "5 10 0 0 down\n", "5 1 4 0 down\n", "5 1 0 2 down\n", "5 1 14 0 down\n", "9223372036854775807 1 0 0 down\n", "9223372036854775808 1 0 0 down\n", "18446744073709551621 1 0 0 down\n", "5 18446744073709551617 0 0 down\n",
		"5 1 18446744073709551616 0 down\n", "5 1 0 18446744073709551616 down\n", "5 4294967297 0 0 down\n", "5 1 4294967296 0 down\n", strings.Repeat("9", 1000) + " 1 0 0 down\n", "5 257 0 0 down\n", "5 1 256 0 down\n",
		// Other words.
		"5 1 0 0 Down\n", "5 1 0 0 DOWN\n", "5 1 0 0 dow\n", "5 1 0 0 downs\n", "5 1 0 0 up\n", "5 1 0 0 1\n", "5 1 0 0 <\n", "5 1 0 0 -\n", "5 1 0 0 open\n", "5 1 0 0 \n", "5 1 0 0\n", "5 1 0 down\n", "5 1 0 0 0 down\n", "down\n", "5 1 0 0 review\n", "review\n",
		"6 2 0 1 down Review\n", "6 2 0 1 down reviews\n", "6 2 0 1 down revie\n", "6 2 0 1 down r\n", "6 2 0 1 down x\n", "6 2 0 1 down 1\n", "6 2 0 1 down true\n", "6 2 0 1 down down\n", "6 2 0 1 review down\n", "review 6 2 0 1 down\n", "6 2 0 1 downreview\n",
		"6 2 0 1 down review review\n", "6 2 0 1 down review down\n", "6 2 0 1 none down review\n", "a 1 0 0 down\n", "5 b 0 0 down\n", "5 1 c 0 down\n", "5 1 0 d down\n", "5,1,0,0,down\n", "5 1 0 0 down;", "\x005 1 0 0 down\n", "5 1 0 0 down\x00\n", "5 1 0 0 d\xffwn\n",
		// Texts of changes that are no history of the list.
		"5 0 0 0 down\n", "6 2 0 1 none review\n", "5 1 0 0 down review\n", "6 2 0 1 down review\n6 2 0 1 down review\n", "6 2 0 1 down review\n5 1 0 0 down\n", strings.Repeat("5 1 0 0 down\n", 61), strings.Repeat("0 1 0 0 down\n", 100000), "5 1 1 1 none\n",
	} {
		calm(t, fmt.Sprintf("ParseHistory of %.40q", s), func() {
			if x, ok := impl.ParseHistory(markedList(), s); len(x) != 0 || ok {
				t.Errorf("ParseHistory of %.40q = %v, %v", s, x, ok)
			}
			// A wrong line is wrong behind and before a right one too.
			for _, s := range []string{"0 1 3 0 down\n" + s, s + "100000 1 3 0 down\n"} {
				if x, ok := impl.ParseHistory(markedList(), s); len(x) != 0 || ok {
					t.Errorf("ParseHistory of %.40q = %v, %v", s, x, ok)
				}
			}
		})
	}
	for _, s := range []string{good, "0 1 3 0 down\n100000 1 3 0 down\n", strings.Repeat("5 1 0 0 down\n", 60)} {
		if _, ok := impl.ParseHistory(markedList(), s); !ok {
			t.Errorf("ParseHistory of %q fails", s)
		}
	}
}

var historyLine = regexp.MustCompile(`^(0|[1-9][0-9]{0,5}) ([1-9]) ([0-9]|1[0-3]) ([0-2]) (none|down|edge|void)( review)?$`)

// plainParse is the history of a text as the document describes it.
func plainParse(l []impl.Item, s string) ([]impl.Change, bool) {
	lines := strings.Split(s, "\n")
	if lines[len(lines)-1] != "" {
		return nil, false
	}
	for _, line := range lines[:len(lines)-1] {
		if !historyLine.MatchString(line) {
			return nil, false
		}
	}
	h := changes(strings.Join(lines, ";"))
	_, _, ok := plainState(l, h)
	return h, ok
}

// Each byte of a text is left out, put in once more and put in the place of others.
func TestParseHistoryOfChangedTexts(t *testing.T) {
	text := plainLines(changes("0 1 0 0 down; 10 2 2 1 none review; 10 9 0 0 down review; 99999 2 2 1 edge"))
	parsed := 0
	for i := range text {
		texts := []string{text[:i], text[i:], text[:i] + text[i+1:], text[:i] + text[i:i+1] + text[i:]}
		for _, s := range []string{"0", "1", "2", "9", " ", "\n", "-", "+", "e", "x", "\x00", "\xff"} {
			texts = append(texts, text[:i]+s+text[i:], text[:i]+s+text[i+1:])
		}
		for _, s := range texts {
			want, can := plainParse(markedList(), s)
			if can {
				parsed++
			} else {
				want = nil
			}
			if x, ok := impl.ParseHistory(markedList(), s); ok != can || !slices.Equal(x, want) {
				t.Errorf("ParseHistory of %q = %v, %v; want %v", s, x, ok, want)
			}
		}
	}
	if parsed < 50 {
		t.Errorf("only %d texts of histories", parsed)
	}
}

// The same text is one of a history of one list and not of another one.
func TestParseHistoryOfOtherLists(t *testing.T) {
	text := "3 1 0 1 down review\n4 1 1 0 none\n"
	for _, w := range []struct {
		list []impl.Item
		is   bool
	}{
		{markedList(), true}, {unmarked(markedList()), false}, {markedList()[:2], true}, {markedList()[:1], false}, {markedList()[1:], false}, {nil, false},
		{[]impl.Item{called("2T 3A", true, 3, 1), called("EX", false, 0)}, true}, {[]impl.Item{called("2T", true, 1), called("EX", false, 0)}, false},
	} {
		x, ok := impl.ParseHistory(w.list, text)
		if ok != w.is || len(x) > 0 != w.is {
			t.Errorf("ParseHistory for %s = %v, %v", plainTexts(w.list), x, ok)
		}
		if is, ok := impl.IsHistory(w.list, changes("3 1 0 1 down review; 4 1 1 0 none")); is != w.is || !ok {
			t.Errorf("IsHistory for %s = %v, %v", plainTexts(w.list), is, ok)
		}
	}
}

func TestPromise8FinalStatesAreThoseOfAllChanges(t *testing.T) {
	open := 0
	manyHistories(240, func(l []impl.Item, h []impl.Change) {
		checkHistory(t, l, h)
		if x, ok := impl.OpenReviews(l, h); ok && len(x) > 1 {
			open++
		}
		// Each change gives its name its mark, and no other name another one.
		state := copiedItems(l)
		var added []impl.Change
		for k, x := range h {
			state[x.Item].Marks[x.Name] = x.Mark
			if now, ok := impl.FinalState(l, h[:k+1]); !sameItems(now, state) || !ok {
				t.Errorf("%s: FinalState of %d changes = %s, %v", historyTexts(l, h), k+1, plainTexts(now), ok)
			}
			var ok bool
			if added, ok = impl.AddChange(l, added, x); !slices.Equal(added, h[:k+1]) || !ok {
				t.Errorf("%s: AddChange of change %d = %v, %v", historyTexts(l, h), k, added, ok)
			}
		}
	})
	if open < 50 {
		t.Errorf("only %d histories with several open reviews", open)
	}
}

func TestPromise8WhatIsTakenBackIsAsItWas(t *testing.T) {
	taken := 0
	manyHistories(240, func(l []impl.Item, h []impl.Change) {
		for n := range h {
			part := h[:n+1]
			checkTakeBack(t, l, part, 100000, 1+n%9)
			longer, ok := impl.TakeBack(l, part, 100000, 1+n%9)
			if !ok {
				continue
			}
			taken++
			// The final state is as without the last change that is no review, which stays in the history.
			k := len(part) - 1
			for part[k].Review {
				k--
			}
			without, _, _ := plainState(l, part[:k])
			if x, ok := impl.FinalState(l, longer); !sameItems(x, without) || !ok {
				t.Errorf("%s: FinalState = %s, %v; want %s", historyTexts(l, longer), plainTexts(x), ok, plainTexts(without))
			}
			if last, ok := impl.LastChange(l, longer, part[k].Item, part[k].Name); last != len(part) || !ok || !slices.Equal(longer[:len(part)], part) {
				t.Errorf("%s: LastChange = %d, %v", historyTexts(l, longer), last, ok)
			}
		}
	})
	if taken < 2000 {
		t.Errorf("only %d changes are taken back", taken)
	}
}

func TestPromise33HistoriesOfListsThatAreNotValid(t *testing.T) {
	for what, l := range badLists() {
		for _, h := range [][]impl.Change{nil, changes("5 1 0 0 down"), someChanges()} {
			before := copiedItems(l)
			checkNoHistory(t, what, l, h)
			calm(t, what, func() {
				for _, s := range []string{"", "5 1 0 0 down\n", "5"} {
					if x, ok := impl.ParseHistory(l, s); len(x) != 0 || ok {
						t.Errorf("%s: ParseHistory of %q = %v, %v", what, s, x, ok)
					}
				}
				if x, ok := impl.AddChange(l, h, impl.Change{Tick: 100000, Caller: 1, Item: len(l) - 1}); len(x) != 0 || ok {
					t.Errorf("%s: AddChange = %v, %v", what, x, ok)
				}
			})
			if !sameItems(l, before) {
				t.Errorf("%s: the list is changed", what)
			}
		}
	}
}

func TestPromise33HistoryAcceptsAllArguments(t *testing.T) {
	l := markedList()
	for _, a := range wild {
		for _, b := range wild {
			calm(t, fmt.Sprint("calls with ", a, " and ", b), func() {
				for _, x := range []impl.Change{{Tick: a, Caller: b}, {Tick: 3, Caller: 1, Item: a, Name: b}, {Tick: a, Caller: 1, Mark: b, Review: true}, {Tick: a, Caller: a, Item: b, Name: b, Mark: a}} {
					h := []impl.Change{{Tick: 0, Caller: 1, Item: 1}, x}
					_, _, good := plainState(l, h)
					if is, ok := impl.IsHistory(l, h); is != good || !ok {
						t.Errorf("IsHistory of %+v = %v, %v", h, is, ok)
					}
					if longer, ok := impl.AddChange(l, h[:1], x); ok != good || len(longer) > 0 != good {
						t.Errorf("AddChange of %+v = %v, %v", x, longer, ok)
					}
					historyAnswers(l, h)
				}
				impl.StateAt(l, someChanges(), a)
				impl.CallersOf(l, someChanges(), a, b)
				impl.LastChange(l, someChanges(), a, b)
				impl.TakeBack(l, someChanges(), a, b)
			})
		}
	}
	for _, s := range []string{"\x00", "\xff", "\n", "\u20ac", " ", strings.Repeat("5", 100000), strings.Repeat(" ", 100000), strings.Repeat("\n", 100000), strings.Repeat("5 1 0 0 ", 100000), "5 1 0 0 " + strings.Repeat("down", 100000), "\u00a05 1 0 0 down\n", "5 1 0 0 down\u2028\n", "5\u00a01 0 0 down\n", "5\u00851 0 0 down\n"} {
		calm(t, "ParseHistory of wild strings", func() {
			if x, ok := impl.ParseHistory(l, s); len(x) != 0 || ok {
				t.Errorf("ParseHistory of %.20q = %v, %v", s, x, ok)
			}
		})
	}
}

// sparedChanges are a copy of a history with spare capacity that has more of what a history can have.
func sparedChanges(h []impl.Change) []impl.Change {
	return append(slices.Clone(h), impl.Change{Tick: 100000, Caller: 1, Mark: 2}, impl.Change{Tick: 100000, Caller: 1, Mark: 2, Review: true}, impl.Change{Tick: -77})[:len(h)]
}

func TestPromise33HistoriesAreLeftAsTheyAre(t *testing.T) {
	manyHistories(64, func(plain []impl.Item, h []impl.Change) {
		l, same := sparedItems(plain)
		spare := sparedChanges(h)
		before := wholeText(reflect.ValueOf(spare))
		answers, further := historyAnswers(l, spare), historyAnswers(l, spare)
		impl.IsHistory(l, spare)
		parsed, ok := impl.ParseHistory(l, plainLines(h))
		answers["ParseHistory"] = answer{parsed, ok}
		if !same() || wholeText(reflect.ValueOf(spare)) != before {
			t.Errorf("%s: an argument is changed", historyTexts(plain, h))
		}
		for what, a := range answers {
			if other, ok := further[what]; ok {
				checkApart(t, what, a.value, l, spare, other.value)
			} else {
				checkApart(t, what, a.value, l, spare)
			}
		}
		// What stands behind the lengths is not read.
		for what, a := range historyAnswers(plain, h) {
			if b := answers[what]; fmt.Sprintf("%+v", b) != fmt.Sprintf("%+v", a) {
				t.Errorf("%s of %s = %+v; with spare capacity %+v", what, historyTexts(plain, h), a, b)
			}
		}
	})
	for what, h := range badChanges() {
		l, same := sparedItems(markedList())
		spare := sparedChanges(h)
		before := wholeText(reflect.ValueOf(spare))
		checkNoHistory(t, what, l, spare)
		if !same() || wholeText(reflect.ValueOf(spare)) != before {
			t.Errorf("%s: an argument is changed", what)
		}
	}
}

// Items of an argument may be the same memory; those of a result may not.
func TestPromise33StatesShareNothing(t *testing.T) {
	names, marks := []string{"2T", "3A"}, []int{0, 1}
	l := []impl.Item{{Names: names, Marks: marks}, {Names: names, Marks: marks, Late: true}}
	h := changes("3 1 0 1 void; 4 1 1 0 edge; 4 2 1 1 down review; 4 1 0 0 none review")
	checkHistory(t, l, h)
	for what, a := range historyAnswers(l, h) {
		checkApart(t, what, a.value, l, h)
	}
	for _, h := range [][]impl.Change{h, nil, {}} {
		state, ok := impl.StateAt(l, h, 3)
		final, good := impl.FinalState(l, h)
		if !ok || !good {
			t.Errorf("StateAt or FinalState fails")
		}
		checkApart(t, "StateAt", state, l, h, final)
		checkApart(t, "FinalState", final, l, h)
	}
}
