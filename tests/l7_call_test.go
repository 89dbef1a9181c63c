package tests

import (
	"fmt"
	"reflect"
	"slices"
	"strings"
	"testing"

	"loop.example/g00912/impl"
)

// sheetOf is a sheet of items, words of names joined by +, late as rule 8 says. The votes of each caller
// are words too, with a digit for each name, or a - where a vote is missing.
func sheetOf(items string, votes [3]string, reviews ...impl.Review) impl.Sheet {
	s := impl.Sheet{Items: planned(strings.Fields(items)...), Votes: make([][][]int, 3), Reviews: reviews}
	for caller, text := range votes {
		for _, word := range strings.Fields(text) {
			var row []int
			for _, sign := range word {
				row = append(row, strings.IndexRune("-0123", sign)-1)
			}
			s.Votes[caller] = append(s.Votes[caller], row)
		}
	}
	return s
}

// oneName is a sheet of one name with a vote of each caller.
func oneName(votes string, reviews ...impl.Review) impl.Sheet {
	return sheetOf("2T", [3]string{votes[:1], votes[1:2], votes[2:]}, reviews...)
}

// someSheet has names that occur several times, calls of each kind, open names and reviews.
func someSheet() impl.Sheet {
	return sheetOf("3A+2T CSP 2T+2T+3A STSQ", [3]string{"1- 0 301 -", "12 0 311 -", "0- 3 32- 1"}, impl.Review{Item: 2, Name: 1, Mark: 2}, impl.Review{Mark: 3}, impl.Review{Item: 2, Name: 1})
}

// noVotes are votes for the names of a list, all of which are missing.
func noVotes(l []impl.Item) [][][]int {
	votes := make([][][]int, 3)
	for caller := range votes {
		for _, it := range l {
			votes[caller] = append(votes[caller], repeated(-1, len(it.Names)))
		}
	}
	return votes
}

// mixedSheet is a sheet of n items that differs from one seed to the next one.
func mixedSheet(seed, n int) impl.Sheet {
	next := mixing(seed)
	s := impl.Sheet{Items: unmarked(mixedItems(seed, n))}
	s.Votes = noVotes(s.Items)
	for _, ofCaller := range s.Votes {
		for _, ofItem := range ofCaller {
			for k := range ofItem {
				// More votes are missing in one sheet than in another one.
				ofItem[k] = max(-1, next(5+seed%3)-1-seed%3)
			}
		}
	}
	for range min(20, n*next(40)) {
		item := next(n)
		s.Reviews = append(s.Reviews, impl.Review{Item: item, Name: next(len(s.Items[item].Names)), Mark: next(4)})
	}
	return s
}

// clearSheet is a mixed sheet in which the first caller votes as the second one wherever the call would be open.
func clearSheet(seed, n int) impl.Sheet {
	s := mixedSheet(seed, n)
	for _, at := range namesOfSheet(s) {
		if plainCall(s, at[0], at[1]) < 0 {
			s.Votes[1][at[0]][at[1]] = max(0, s.Votes[1][at[0]][at[1]])
			s.Votes[0][at[0]][at[1]] = s.Votes[1][at[0]][at[1]]
		}
	}
	return s
}

// manySheets calls a function with sheets of 0 to 14 items, some of them without an open name.
func manySheets(seeds int, do func(s impl.Sheet)) {
	do(someSheet())
	for seed := range seeds {
		do(mixedSheet(seed, seed%15))
		do(clearSheet(seed, seed%15))
	}
}

// namesOfItems are the item and the index of each name of a list.
func namesOfItems(l []impl.Item) [][]int {
	var all [][]int
	for i, it := range l {
		for k := range it.Names {
			all = append(all, []int{i, k})
		}
	}
	return all
}

func namesOfSheet(s impl.Sheet) [][]int { return namesOfItems(s.Items) }

func copiedSheet(s impl.Sheet) impl.Sheet {
	x := impl.Sheet{Items: copiedItems(s.Items), Reviews: slices.Clone(s.Reviews), Votes: make([][][]int, len(s.Votes))}
	for caller, ofCaller := range s.Votes {
		for _, ofItem := range ofCaller {
			x.Votes[caller] = append(x.Votes[caller], slices.Clone(ofItem))
		}
	}
	return x
}

func changedSheet(s impl.Sheet, change func(s *impl.Sheet)) impl.Sheet {
	x := copiedSheet(s)
	change(&x)
	return x
}

// sheetText is a short text of a sheet for what tests report.
func sheetText(s impl.Sheet) string {
	return fmt.Sprintf("%s, votes %v, reviews %v", plainTexts(s.Items), s.Votes, s.Reviews)
}

func sameRows(a, b [][]int) bool { return slices.EqualFunc(a, b, slices.Equal[[]int]) }

func sameSheet(a, b impl.Sheet) bool {
	return sameItems(a.Items, b.Items) && slices.EqualFunc(a.Votes, b.Votes, sameRows) && slices.Equal(a.Reviews, b.Reviews)
}

// plainCall counts: it is the call of a name, or -1 if it is open.
func plainCall(s impl.Sheet, item, name int) int {
	call := -1
	counts := map[int]int{}
	for _, ofCaller := range s.Votes {
		counts[ofCaller[item][name]]++
	}
	for mark, n := range counts {
		if mark >= 0 && n > 1 {
			call = mark
		}
	}
	for _, r := range s.Reviews {
		if r.Item == item && r.Name == name {
			call = r.Mark
		}
	}
	return call
}

func checkCall(t *testing.T, what string, s impl.Sheet, item, name, want int) {
	t.Helper()
	if mark, ok := impl.CallOf(s, item, name); mark != max(0, want) || ok != (want >= 0) {
		t.Errorf("%s: CallOf name %d of item %d = %d, %v; want %d", what, name, item, mark, ok, want)
	}
}

// checkPanel checks all that is told of a sheet against plainCall.
func checkPanel(t *testing.T, s impl.Sheet) {
	t.Helper()
	what := sheetText(s)
	if !impl.IsSheet(s) {
		t.Errorf("%s is not valid", what)
	}
	var open [][]int
	called, dissents, missing := copiedItems(s.Items), []int{0, 0, 0}, false
	for _, at := range namesOfSheet(s) {
		call := plainCall(s, at[0], at[1])
		checkCall(t, what, s, at[0], at[1], call)
		called[at[0]].Marks[at[1]] = call
		if call < 0 {
			open = append(open, at)
		}
		for caller, ofCaller := range s.Votes {
			vote := ofCaller[at[0]][at[1]]
			missing = missing || vote < 0
			if vote >= 0 && call >= 0 && vote != call {
				dissents[caller]++
			}
		}
	}
	if l, ok := impl.OpenCalls(s); !sameRows(l, open) || !ok {
		t.Errorf("%s: OpenCalls = %v, %v; want %v", what, l, ok, open)
	}
	if len(open) > 0 {
		called = nil
	}
	if l, ok := impl.CalledItems(s); !sameItems(l, called) || ok != (len(open) == 0) {
		t.Errorf("%s: CalledItems = %+v, %v", what, l, ok)
	}
	if l, ok := impl.Dissents(s); !slices.Equal(l, dissents) || !ok {
		t.Errorf("%s: Dissents = %v, %v; want %v", what, l, ok, dissents)
	}
	if final, ok := impl.IsFinal(s); final != (len(open) == 0 && !missing) || !ok {
		t.Errorf("%s: IsFinal = %v, %v", what, final, ok)
	}
}

// goodSheets are sheets at the bounds.
func goodSheets() map[string]impl.Sheet {
	sheets := map[string]impl.Sheet{
		"without items":             {Votes: make([][][]int, 3)},
		"without items, empty":      {Items: []impl.Item{}, Votes: [][][]int{{}, {}, {}}, Reviews: []impl.Review{}},
		"without items, half empty": {Votes: [][][]int{nil, {}, nil}},
		"some":                      someSheet(),
		"all missing":               oneName("---"),
		"late":                      {Items: []impl.Item{called("2T 3A", true, 0, 0)}, Votes: [][][]int{{{0, 1}}, {{2, 3}}, {{-1, -1}}}},
		"not late":                  {Items: []impl.Item{called("2T 3A", false, 0, 0)}, Votes: [][][]int{{{0, 1}}, {{2, 3}}, {{-1, -1}}}},
		"20 reviews":                oneName("000", slices.Repeat([]impl.Review{{Mark: 3}}, 20)...),
		"20 different reviews":      mixedSheet(1, 14),
	}
	for n, text := range []string{"2T", "2T+3A", "2T+3A+2T"} {
		l := unmarked(slices.Repeat([]impl.Item{plannedItem(text)}, 14))
		last := impl.Review{Item: 13, Name: n, Mark: 2}
		sheets["14 items "+text] = impl.Sheet{Items: l, Votes: noVotes(l), Reviews: []impl.Review{last, {Item: 0, Name: n}, last}}
		sheets["one item "+text] = impl.Sheet{Items: l[:1], Votes: noVotes(l[:1]), Reviews: []impl.Review{{Name: n, Mark: 1}}}
	}
	for mark := -1; mark <= 3; mark++ {
		for caller := range 3 {
			for _, at := range namesOfSheet(someSheet()) {
				sheets[fmt.Sprint("the vote ", mark, " of ", caller, " at ", at)] = changedSheet(someSheet(), func(s *impl.Sheet) { s.Votes[caller][at[0]][at[1]] = mark })
			}
		}
	}
	return sheets
}

func TestIsSheet(t *testing.T) {
	if impl.MaxReviews != 20 {
		t.Error("MaxReviews", impl.MaxReviews)
	}
	for what, s := range goodSheets() {
		if !impl.IsSheet(s) {
			t.Errorf("%s: not valid", what)
		}
		checkPanel(t, s)
	}
	for what, s := range badSheets() {
		if impl.IsSheet(s) {
			t.Errorf("%s: valid", what)
		}
	}
}

// badSheets are wrong in one way each.
func badSheets() map[string]impl.Sheet {
	sheets := map[string]impl.Sheet{
		"zero":                       {},
		"zero but for empty votes":   {Votes: [][][]int{}},
		"no votes":                   {Items: planned("2T")},
		"an item, votes for none":    {Items: planned("2T"), Votes: make([][][]int, 3)},
		"votes for an item, none":    {Votes: oneName("000").Votes},
		"a review, no item":          {Votes: make([][][]int, 3), Reviews: []impl.Review{{}}},
		"an empty item":              {Items: make([]impl.Item, 1), Votes: [][][]int{{{}}, {{}}, {{}}}},
		"21 reviews":                 oneName("000", slices.Repeat([]impl.Review{{Mark: 3}}, 21)...),
		"10000 reviews":              oneName("000", make([]impl.Review, 10000)...),
		"10000 callers":              {Items: planned("2T"), Votes: slices.Repeat(oneName("000").Votes, 10000)},
		"votes of one that is wrong": {Items: planned("2T", "2T"), Votes: [][][]int{{{0}, {0}}, {{0}, {0}}, {{0, 0}}}},
	}
	for callers := range 7 {
		if callers != 3 {
			sheets[fmt.Sprint(callers, " callers")] = changedSheet(someSheet(), func(s *impl.Sheet) { s.Votes = slices.Repeat(s.Votes, 3)[:callers] })
			sheets[fmt.Sprint(callers, " callers, no items")] = impl.Sheet{Votes: make([][][]int, callers)}
		}
	}
	addBadVotes(sheets)
	addBadReviews(sheets)
	addBadSheetItems(sheets)
	return sheets
}

func addBadVotes(sheets map[string]impl.Sheet) {
	for caller := range 3 {
		add := func(what string, change func(ofCaller *[][]int)) {
			sheets[fmt.Sprint("caller ", caller, what)] = changedSheet(someSheet(), func(s *impl.Sheet) { change(&s.Votes[caller]) })
		}
		add(": no items", func(ofCaller *[][]int) { *ofCaller = nil })
		add(": an item less", func(ofCaller *[][]int) { *ofCaller = (*ofCaller)[:3] })
		add(": an item more", func(ofCaller *[][]int) { *ofCaller = append(*ofCaller, []int{0}) })
		add(": an empty item more", func(ofCaller *[][]int) { *ofCaller = append(*ofCaller, nil) })
		add(": items in another order", func(ofCaller *[][]int) { slices.Reverse(*ofCaller) })
		for item := range 4 {
			add(fmt.Sprint(": no names of item ", item), func(ofCaller *[][]int) { (*ofCaller)[item] = nil })
			add(fmt.Sprint(": a name less of item ", item), func(ofCaller *[][]int) { (*ofCaller)[item] = (*ofCaller)[item][1:] })
			add(fmt.Sprint(": a name more of item ", item), func(ofCaller *[][]int) { (*ofCaller)[item] = append((*ofCaller)[item], -1) })
		}
		for _, vote := range append([]int{4, 5, -3, 255, 256, 257, -256}, wild...) {
			for _, at := range namesOfSheet(someSheet()) {
				if vote < -1 || vote > 3 {
					add(fmt.Sprint(": the vote ", vote, " at ", at), func(ofCaller *[][]int) { (*ofCaller)[at[0]][at[1]] = vote })
				}
			}
		}
	}
}

// wrongReviews are reviews that someSheet cannot have.
func wrongReviews() []impl.Review {
	// One past the last name of each item, and of the items.
	reviews := []impl.Review{{Item: 0, Name: 2}, {Item: 1, Name: 1}, {Item: 2, Name: 3}, {Item: 3, Name: 1}, {Item: 4}, {Item: 14}}
	for _, n := range append([]int{4, 5, -3}, wild...) {
		if n < 0 || n > 3 {
			reviews = append(reviews, impl.Review{Item: n}, impl.Review{Item: 2, Name: n}, impl.Review{Name: 1, Mark: n})
		}
	}
	return reviews
}

func addBadReviews(sheets map[string]impl.Sheet) {
	for _, r := range wrongReviews() {
		for at := range 4 {
			sheets[fmt.Sprintf("%+v at %d", r, at)] = changedSheet(someSheet(), func(s *impl.Sheet) { s.Reviews = slices.Insert(s.Reviews, at, r) })
		}
		sheets[fmt.Sprintf("%+v, alone", r)] = changedSheet(someSheet(), func(s *impl.Sheet) { s.Reviews = []impl.Review{r} })
	}
}

func addBadSheetItems(sheets map[string]impl.Sheet) {
	for what, l := range badLists() {
		sheets["items: "+what] = impl.Sheet{Items: l, Votes: noVotes(l)}
		l = unmarkedIfGood(l)
		sheets["items: "+what+", without other marks"] = impl.Sheet{Items: l, Votes: noVotes(l)}
	}
	for _, at := range namesOfSheet(someSheet()) {
		for mark := 1; mark <= 3; mark++ {
			sheets[fmt.Sprint("the mark ", mark, " at ", at)] = changedSheet(someSheet(), func(s *impl.Sheet) { s.Items[at[0]].Marks[at[1]] = mark })
		}
	}
}

// unmarkedIfGood is a copy of a list in which the items that are valid have no marks.
func unmarkedIfGood(l []impl.Item) []impl.Item {
	l = copiedItems(l)
	for _, it := range l {
		if impl.IsItem(it) {
			clear(it.Marks)
		}
	}
	return l
}

func TestNewSheet(t *testing.T) {
	for _, original := range append(someLists(), planned("2T"), planned("2T+3A", "CSP"), unmarked(longestItems()), []impl.Item{called("3A 2T EX", true, 0, 0, 0)}) {
		l := unmarked(original)
		s, ok := impl.NewSheet(l)
		if !sameSheet(s, impl.Sheet{Items: l, Votes: noVotes(l)}) || !ok {
			t.Errorf("NewSheet of %s = %+v, %v", plainTexts(l), s, ok)
		}
		checkPanel(t, s)
		// With a mark at any place there is none.
		for i, it := range l {
			for k := range it.Marks {
				it.Marks[k] = 1 + (i+k)%3
				if s, ok := impl.NewSheet(l); !isNoSheet(s) || ok {
					t.Errorf("NewSheet of %s = %+v, %v", plainTexts(l), s, ok)
				}
				it.Marks[k] = 0
			}
		}
	}
	bad := badLists()
	for what, l := range badLists() {
		bad[what+", without other marks"] = unmarkedIfGood(l)
	}
	for what, l := range bad {
		if s, ok := impl.NewSheet(l); !isNoSheet(s) || ok {
			t.Errorf("%s: NewSheet = %+v, %v", what, s, ok)
		}
	}
}

func isNoSheet(s impl.Sheet) bool { return sameSheet(s, impl.Sheet{}) }

func TestCallsByVotes(t *testing.T) {
	for votes, call := range map[string]int{
		"000": 0, "111": 1, "222": 2, "333": 3,
		"110": 1, "101": 1, "011": 1, "001": 0, "010": 0, "100": 0, "332": 3, "323": 3, "233": 3, "022": 2, "202": 2, "220": 2,
		"012": -1, "120": -1, "321": -1, "130": -1, "203": -1,
		"11-": 1, "1-1": 1, "-11": 1, "00-": 0, "0-0": 0, "-00": 0, "33-": 3, "3-3": 3, "-33": 3,
		"10-": -1, "1-0": -1, "-10": -1, "23-": -1, "3-2": -1, "-02": -1,
		"1--": -1, "-1-": -1, "--1": -1, "0--": -1, "-0-": -1, "--0": -1, "--3": -1, "---": -1,
	} {
		checkCall(t, votes, oneName(votes), 0, 0, call)
		// The votes of other names do not count.
		for _, other := range []string{"000", "111", "333", "---", "12-"} {
			o := [3]string{other[:1], other[1:2], other[2:]}
			among := sheetOf("2T+2T+2T 3A+2T 2T", [3]string{
				o[0] + o[0] + o[0] + " " + votes[:1] + o[0] + " " + o[0], o[1] + o[1] + o[1] + " " + votes[1:2] + o[1] + " " + o[1], o[2] + o[2] + o[2] + " " + votes[2:] + o[2] + " " + o[2],
			})
			checkCall(t, votes+" among "+other, among, 1, 0, call)
			checkPanel(t, among)
		}
	}
}

func TestCallsByAllVotes(t *testing.T) {
	for a := range "-0123" {
		for b := range "-0123" {
			for c := range "-0123" {
				votes := "-0123"[a:a+1] + "-0123"[b:b+1] + "-0123"[c:c+1]
				checkPanel(t, oneName(votes))
				for mark := range 4 {
					// A review decides whatever the votes are.
					checkCall(t, votes, oneName(votes, impl.Review{Mark: mark}), 0, 0, mark)
					checkPanel(t, oneName(votes, impl.Review{Mark: mark}))
				}
			}
		}
	}
}

func TestCallsByReviews(t *testing.T) {
	for _, votes := range []string{"111", "11-", "012", "---", "000", "3--"} {
		for first := range 4 {
			for second := range 4 {
				s := oneName(votes, impl.Review{Mark: first}, impl.Review{Mark: second})
				checkCall(t, fmt.Sprint(votes, first, second), s, 0, 0, second)
				s = oneName(votes, impl.Review{Mark: first}, impl.Review{Mark: second}, impl.Review{Mark: first})
				checkCall(t, fmt.Sprint(votes, first, second, first), s, 0, 0, first)
			}
		}
	}
	// Reviews of other names, in the same item and at the same place of another one, do not count.
	s := sheetOf("2T+2T 2T+2T", [3]string{"10 23", "11 2-", "00 2-"}, impl.Review{Item: 0, Name: 1, Mark: 3}, impl.Review{Item: 1, Name: 0, Mark: 3}, impl.Review{Item: 0, Name: 1, Mark: 2})
	for i, marks := range [][]int{{1, 2}, {3, -1}} {
		for k, mark := range marks {
			checkCall(t, "two items", s, i, k, mark)
		}
	}
	checkPanel(t, s)
}

func TestNamesThatAreNotThere(t *testing.T) {
	s := someSheet()
	empty := impl.Sheet{Votes: make([][][]int, 3)}
	for _, a := range append([]int{-3, 3, 4, 14}, wild...) {
		for _, b := range append([]int{-3, 3, 4, 14}, wild...) {
			there := slices.ContainsFunc(namesOfSheet(s), func(at []int) bool { return at[0] == a && at[1] == b })
			calm(t, fmt.Sprint("name ", b, " of item ", a), func() {
				if there {
					checkCall(t, "some", s, a, b, plainCall(s, a, b))
				} else {
					checkCall(t, "some", s, a, b, -1)
				}
				checkCall(t, "no items", empty, a, b, -1)
				if x, ok := impl.VoteCall(s, 1, a, b, 2); ok != there || isNoSheet(x) == there {
					t.Errorf("VoteCall for name %d of item %d = %+v, %v", b, a, x, ok)
				}
				if x, ok := impl.VoteCall(empty, 1, a, b, 2); !isNoSheet(x) || ok {
					t.Errorf("VoteCall for name %d of item %d of none = %+v, %v", b, a, x, ok)
				}
				if x, ok := impl.AddReview(s, impl.Review{Item: a, Name: b, Mark: 1}); ok != there || isNoSheet(x) == there {
					t.Errorf("AddReview for name %d of item %d = %+v, %v", b, a, x, ok)
				}
				if x, ok := impl.AddReview(empty, impl.Review{Item: a, Name: b}); !isNoSheet(x) || ok {
					t.Errorf("AddReview for name %d of item %d of none = %+v, %v", b, a, x, ok)
				}
			})
		}
	}
}

func TestVoteCall(t *testing.T) {
	for _, s := range []impl.Sheet{someSheet(), oneName("---"), oneName("123", impl.Review{Mark: 1}), mixedSheet(3, 14)} {
		for caller := range 3 {
			for _, at := range namesOfSheet(s) {
				for mark := -1; mark <= 3; mark++ {
					want := changedSheet(s, func(s *impl.Sheet) { s.Votes[caller][at[0]][at[1]] = mark })
					x, ok := impl.VoteCall(s, caller, at[0], at[1], mark)
					if !sameSheet(x, want) || !ok {
						t.Errorf("VoteCall by %d at %v, %d = %s, %v; it was %s", caller, at, mark, sheetText(x), ok, sheetText(s))
					}
					checkPanel(t, x)
				}
			}
		}
	}
}

func TestVoteCallOfOthers(t *testing.T) {
	for _, n := range append([]int{4, 5, -3, 255, 256}, wild...) {
		calm(t, fmt.Sprint("a vote with ", n), func() {
			if x, ok := impl.VoteCall(someSheet(), 0, 2, 1, n); ok != (-1 <= n && n <= 3) || isNoSheet(x) == ok {
				t.Errorf("VoteCall with the mark %d = %+v, %v", n, x, ok)
			}
			if x, ok := impl.VoteCall(someSheet(), n, 2, 1, 3); ok != (0 <= n && n <= 2) || isNoSheet(x) == ok {
				t.Errorf("VoteCall by the caller %d = %+v, %v", n, x, ok)
			}
		})
	}
	if x, ok := impl.VoteCall(someSheet(), 3, 0, 0, 0); !isNoSheet(x) || ok {
		t.Errorf("VoteCall by a fourth caller = %+v, %v", x, ok)
	}
}

// Votes come one after the other, the call follows them, and what is taken back is open again.
func TestVotesOfAPanel(t *testing.T) {
	s, ok := impl.NewSheet(planned("3A+2T", "CSP"))
	if !ok {
		t.Fatal("NewSheet fails")
	}
	for i, w := range []struct{ caller, mark, call int }{
		{2, 1, -1}, {0, 0, -1}, {1, 1, 1}, {1, 0, 0}, {2, -1, 0}, {0, -1, -1}, {2, 3, -1}, {0, 3, 3}, {1, 2, 3}, {2, 2, 2}, {1, 1, -1},
	} {
		s, ok = impl.VoteCall(s, w.caller, 0, 1, w.mark)
		if !ok {
			t.Fatalf("vote %d fails", i)
		}
		checkCall(t, fmt.Sprint("after vote ", i), s, 0, 1, w.call)
		checkCall(t, fmt.Sprint("after vote ", i), s, 0, 0, -1)
		checkPanel(t, s)
	}
}

func TestAddReview(t *testing.T) {
	s := changedSheet(someSheet(), func(s *impl.Sheet) { s.Reviews = nil })
	var reviews []impl.Review
	next := mixing(7)
	for len(reviews) < 20 {
		at := namesOfSheet(s)[next(7)]
		r := impl.Review{Item: at[0], Name: at[1], Mark: next(4)}
		reviews = append(reviews, r)
		x, ok := impl.AddReview(s, r)
		if want := (impl.Sheet{Items: s.Items, Votes: s.Votes, Reviews: reviews}); !sameSheet(x, want) || !ok {
			t.Fatalf("AddReview of %+v = %+v, %v", r, x, ok)
		}
		checkCall(t, "reviewed", x, r.Item, r.Name, r.Mark)
		checkPanel(t, x)
		for _, wrong := range wrongReviews() {
			if y, ok := impl.AddReview(s, wrong); !isNoSheet(y) || ok {
				t.Errorf("AddReview of %+v = %+v, %v", wrong, y, ok)
			}
		}
		s = x
	}
	for _, r := range append(reviews, wrongReviews()...) {
		if x, ok := impl.AddReview(s, r); !isNoSheet(x) || ok {
			t.Errorf("AddReview of a 21st one = %+v, %v", x, ok)
		}
	}
}

func TestOpenCalls(t *testing.T) {
	long := make([]string, 14)
	for i := range long {
		long[i] = "2T+3A+EX"
	}
	l := planned(long...)
	all := impl.Sheet{Items: l, Votes: noVotes(l)}
	for _, w := range []struct {
		sheet impl.Sheet
		open  [][]int
	}{
		{someSheet(), [][]int{{0, 1}, {3, 0}}},
		{impl.Sheet{Votes: make([][][]int, 3)}, nil},
		{oneName("11-"), nil}, {oneName("1-2"), [][]int{{0, 0}}}, {oneName("1-2", impl.Review{}), nil},
		{sheetOf("2T+3A+EX 2T+3A", [3]string{"121 0-", "212 1-", "313 2-"}), [][]int{{0, 0}, {0, 2}, {1, 0}, {1, 1}}},
		{sheetOf("2T+3A 2T+3A+EX", [3]string{"12 321", "12 322", "12 323"}, impl.Review{Item: 1, Name: 2, Mark: 3}), nil},
		{all, namesOfSheet(all)},
	} {
		if l, ok := impl.OpenCalls(w.sheet); !sameRows(l, w.open) || !ok {
			t.Errorf("OpenCalls of %s = %v, %v; want %v", sheetText(w.sheet), l, ok, w.open)
		}
		if l, ok := impl.CalledItems(w.sheet); ok != (len(w.open) == 0) || !ok && len(l) != 0 {
			t.Errorf("CalledItems of %s = %+v, %v", sheetText(w.sheet), l, ok)
		}
	}
	// One open name alone, at each place.
	for _, at := range namesOfSheet(all) {
		s := changedSheet(all, func(s *impl.Sheet) {
			for _, other := range namesOfSheet(all) {
				if !slices.Equal(at, other) {
					s.Votes[0][other[0]][other[1]], s.Votes[2][other[0]][other[1]] = 1, 1
				}
			}
		})
		if l, ok := impl.OpenCalls(s); !sameRows(l, [][]int{at}) || !ok {
			t.Errorf("OpenCalls = %v, %v; want %v", l, ok, at)
		}
		if l, ok := impl.CalledItems(s); len(l) != 0 || ok {
			t.Errorf("CalledItems with %v open = %+v, %v", at, l, ok)
		}
	}
}

func TestCalledItems(t *testing.T) {
	s := sheetOf("3A+2T CSP 2T+2T+3A", [3]string{"13 0 301", "11 0 311", "01 3 321"}, impl.Review{Item: 2, Name: 1, Mark: 2}, impl.Review{Item: 1, Mark: 3})
	for late := range 8 {
		want := []impl.Item{called("3A 2T", late&1 > 0, 1, 1), called("CSP", late&2 > 0, 3), called("2T 2T 3A", late&4 > 0, 3, 2, 1)}
		x := changedSheet(s, func(s *impl.Sheet) {
			for i := range s.Items {
				s.Items[i].Late = want[i].Late
			}
		})
		if l, ok := impl.CalledItems(x); !sameItems(l, want) || !ok {
			t.Errorf("CalledItems = %s, %v; want %s", plainTexts(l), ok, plainTexts(want))
		}
	}
	if l, ok := impl.CalledItems(impl.Sheet{Votes: make([][][]int, 3)}); len(l) != 0 || !ok {
		t.Errorf("CalledItems without items = %+v, %v", l, ok)
	}
	if l, ok := impl.CalledItems(someSheet()); len(l) != 0 || ok {
		t.Errorf("CalledItems with open names = %s, %v", plainTexts(l), ok)
	}
}

func TestDissents(t *testing.T) {
	for _, w := range []struct {
		sheet impl.Sheet
		want  []int
	}{
		{oneName("110"), []int{0, 0, 1}}, {oneName("101"), []int{0, 1, 0}}, {oneName("011"), []int{1, 0, 0}}, {oneName("222"), []int{0, 0, 0}},
		// Votes that are missing, and votes for open names, differ from nothing.
		{oneName("-11"), []int{0, 0, 0}}, {oneName("0-0"), []int{0, 0, 0}}, {oneName("123"), []int{0, 0, 0}}, {oneName("1-2"), []int{0, 0, 0}}, {oneName("---"), []int{0, 0, 0}}, {oneName("--1"), []int{0, 0, 0}},
		// A review may be against a majority, and calls an open name.
		{oneName("110", impl.Review{}), []int{1, 1, 0}}, {oneName("111", impl.Review{Mark: 2}), []int{1, 1, 1}}, {oneName("123", impl.Review{Mark: 2}), []int{1, 0, 1}},
		{oneName("-1-", impl.Review{Mark: 2}), []int{0, 1, 0}}, {oneName("---", impl.Review{Mark: 2}), []int{0, 0, 0}}, {oneName("111", impl.Review{Mark: 2}, impl.Review{Mark: 1}), []int{0, 0, 0}},
		{someSheet(), []int{1, 2, 3}}, {impl.Sheet{Votes: make([][][]int, 3)}, []int{0, 0, 0}},
		{sheetOf("2T+3A+EX 2T+3A CSP", [3]string{"000 00 0", "111 11 1", "111 00 1"}), []int{4, 2, 0}},
	} {
		if l, ok := impl.Dissents(w.sheet); !slices.Equal(l, w.want) || !ok {
			t.Errorf("Dissents of %s = %v, %v; want %v", sheetText(w.sheet), l, ok, w.want)
		}
	}
}

func TestIsFinal(t *testing.T) {
	for _, w := range []struct {
		sheet impl.Sheet
		want  bool
	}{
		{oneName("000"), true}, {oneName("110"), true}, {oneName("333"), true}, {impl.Sheet{Votes: make([][][]int, 3)}, true},
		{oneName("11-"), false}, {oneName("1-1"), false}, {oneName("-11"), false}, {oneName("123"), false}, {oneName("---"), false},
		{oneName("123", impl.Review{}), true}, {oneName("11-", impl.Review{Mark: 1}), false}, {oneName("---", impl.Review{Mark: 1}), false}, {oneName("--0", impl.Review{Mark: 1}), false},
		{sheetOf("2T+3A CSP", [3]string{"01 2", "01 2", "01 2"}), true}, {sheetOf("2T+3A CSP", [3]string{"01 2", "02 2", "03 2"}), false}, {sheetOf("2T+3A CSP", [3]string{"01 2", "01 2", "01 -"}), false},
		{sheetOf("2T+3A CSP", [3]string{"-1 2", "01 2", "01 2"}), false}, {sheetOf("2T+3A CSP", [3]string{"01 2", "01 1", "01 0"}), false}, {sheetOf("2T+3A CSP", [3]string{"01 2", "01 1", "01 0"}, impl.Review{Item: 1}), true},
		{someSheet(), false},
	} {
		if final, ok := impl.IsFinal(w.sheet); final != w.want || !ok {
			t.Errorf("IsFinal of %s = %v, %v; want %v", sheetText(w.sheet), final, ok, w.want)
		}
	}
}

func checkChanged(t *testing.T, a, b impl.Sheet, want [][]int) {
	t.Helper()
	for _, pair := range [][2]impl.Sheet{{a, b}, {b, a}} {
		if l, ok := impl.ChangedCalls(pair[0], pair[1]); !sameRows(l, want) || !ok {
			t.Errorf("ChangedCalls of %s and %s = %v, %v; want %v", sheetText(pair[0]), sheetText(pair[1]), l, ok, want)
		}
	}
}

func TestChangedCalls(t *testing.T) {
	one := [][]int{{0, 0}}
	for _, w := range []struct {
		a, b    impl.Sheet
		changed [][]int
	}{
		{oneName("111"), oneName("111"), nil}, {oneName("111"), oneName("101"), nil}, {oneName("011"), oneName("11-"), nil}, {oneName("111"), oneName("222"), one}, {oneName("11-"), oneName("110", impl.Review{}), one},
		// Open in one of both alone, against each mark, and in both.
		{oneName("12-"), oneName("111"), one}, {oneName("---"), oneName("000"), one}, {oneName("--0"), oneName("33-"), one}, {oneName("---"), oneName("---", impl.Review{}), one},
		{oneName("---"), oneName("012"), nil}, {oneName("1--"), oneName("--2"), nil}, {oneName("12-"), oneName("12-"), nil},
		// Reviews and votes that lead to the same call.
		{oneName("111"), oneName("---", impl.Review{Mark: 1}), nil}, {oneName("000", impl.Review{Mark: 2}), oneName("111", impl.Review{Mark: 1}, impl.Review{Mark: 2}), nil}, {oneName("000", impl.Review{Mark: 2}), oneName("000"), one},
		{impl.Sheet{Votes: make([][][]int, 3)}, impl.Sheet{Items: []impl.Item{}, Votes: [][][]int{{}, {}, {}}}, nil},
		{sheetOf("2T+3A+EX CSP 2T+2T", [3]string{"012 3 --", "012 3 --", "012 3 --"}), sheetOf("2T+3A+EX CSP 2T+2T", [3]string{"111 0 1-", "112 2 1-", "311 3 1-"}), [][]int{{0, 0}, {0, 2}, {1, 0}, {2, 0}}},
	} {
		checkChanged(t, w.a, w.b, w.changed)
	}
	// All names of a long list, in lexicographic order.
	none := mixedSheet(2, 14)
	none.Votes, none.Reviews = noVotes(none.Items), nil
	some := changedSheet(none, func(s *impl.Sheet) {
		for _, at := range namesOfSheet(none) {
			s.Votes[1][at[0]][at[1]], s.Votes[2][at[0]][at[1]] = 0, 0
		}
	})
	checkChanged(t, none, some, namesOfSheet(none))
	checkChanged(t, some, some, nil)
}

// Late may differ, as it is no matter of calls.
func TestChangedCallsOfSheetsThatDifferInLate(t *testing.T) {
	a := someSheet()
	b := changedSheet(a, func(s *impl.Sheet) {
		for i := range s.Items {
			s.Items[i].Late = !s.Items[i].Late
		}
	})
	checkChanged(t, a, b, nil)
	x, ok := impl.AddReview(b, impl.Review{Item: 3, Mark: 1})
	if !ok {
		t.Error("AddReview fails")
	}
	checkChanged(t, a, x, [][]int{{3, 0}})
}

func TestChangedCallsOfOtherNames(t *testing.T) {
	lists := []string{"", "2T", "3A", "2T+3A", "3A+2T", "2T 3A", "3A 2T", "2T 2T", "2T+2T", "2T 3A EX", "2T+3A EX", "2T 3A+EX", "2T+3A+EX", "EX+2T+3A", "2", "2TT", "2T 3A CSP EX"}
	for i, a := range lists {
		for k, b := range lists {
			l, m := planned(strings.Fields(a)...), planned(strings.Fields(b)...)
			changed, ok := impl.ChangedCalls(impl.Sheet{Items: l, Votes: noVotes(l)}, impl.Sheet{Items: m, Votes: noVotes(m)})
			if len(changed) != 0 || ok != (i == k) {
				t.Errorf("ChangedCalls of %q and %q = %v, %v", a, b, changed, ok)
			}
		}
	}
}

func TestPromise7CallsAreThoseOfMajoritiesOrReviews(t *testing.T) {
	open, final := 0, 0
	manySheets(300, func(s impl.Sheet) {
		checkPanel(t, s)
		if l, ok := impl.OpenCalls(s); ok && len(l) > 0 {
			open++
		}
		if is, ok := impl.IsFinal(s); ok && is {
			final++
		}
		// What callers and reviews say of one name further on changes its call alone.
		before := s
		for i, at := range namesOfSheet(s) {
			x, ok := impl.VoteCall(s, i%3, at[0], at[1], i%5-1)
			if len(s.Reviews) < 20 && i%2 == 0 {
				x, ok = impl.AddReview(s, impl.Review{Item: at[0], Name: at[1], Mark: i % 4})
			}
			if !ok {
				t.Errorf("%s: a step at %v fails", sheetText(s), at)
			}
			var changed [][]int
			if plainCall(s, at[0], at[1]) != plainCall(x, at[0], at[1]) {
				changed = [][]int{at}
			}
			checkChanged(t, s, x, changed)
			s = x
		}
		checkPanel(t, s)
		var changed [][]int
		for _, at := range namesOfSheet(s) {
			if plainCall(s, at[0], at[1]) != plainCall(before, at[0], at[1]) {
				changed = append(changed, at)
			}
		}
		checkChanged(t, before, s, changed)
	})
	if open < 100 || final < 20 {
		t.Errorf("only %d sheets with open names, %d final ones", open, final)
	}
}

// An answer is what a call returns.
type answer struct {
	value any
	ok    bool
}

// panelAnswers are those of all functions with a sheet, at each of its names.
func panelAnswers(s impl.Sheet) map[string]answer {
	answers := map[string]answer{}
	add := func(what string, value any, ok bool) { answers[what] = answer{value, ok} }
	open, ok := impl.OpenCalls(s)
	add("OpenCalls", open, ok)
	called, ok := impl.CalledItems(s)
	add("CalledItems", called, ok)
	dissents, ok := impl.Dissents(s)
	add("Dissents", dissents, ok)
	final, ok := impl.IsFinal(s)
	add("IsFinal", final, ok)
	changed, ok := impl.ChangedCalls(s, s)
	add("ChangedCalls", changed, ok)
	votes := 0
	for i, it := range s.Items[:min(len(s.Items), 15)] {
		for k := range it.Names[:min(len(it.Names), 4)] {
			at := fmt.Sprint(" at ", i, " ", k)
			mark, ok := impl.CallOf(s, i, k)
			add("CallOf"+at, mark, ok)
			voted, ok := impl.VoteCall(s, votes%3, i, k, votes%5-1)
			add("VoteCall"+at, voted, ok)
			reviewed, ok := impl.AddReview(s, impl.Review{Item: i, Name: k, Mark: votes % 4})
			add("AddReview"+at, reviewed, ok)
			votes++
		}
	}
	return answers
}

// sparedSheet is a copy of a sheet in which all slices have spare capacity with more of what a sheet can have.
func sparedSheet(s impl.Sheet) impl.Sheet {
	s = copiedSheet(s)
	s.Items, _ = sparedItems(s.Items)
	for caller, ofCaller := range s.Votes {
		for i := range ofCaller {
			ofCaller[i] = append(ofCaller[i], 1, 77)[:len(ofCaller[i])]
		}
		s.Votes[caller] = append(ofCaller, []int{1}, []int{77})[:len(ofCaller)]
	}
	s.Votes = append(s.Votes, [][]int{{1}}, nil)[:len(s.Votes)]
	s.Reviews = append(s.Reviews, impl.Review{Mark: 1}, impl.Review{Item: -77})[:len(s.Reviews)]
	return s
}

func TestPromise33SheetsThatAreNotValid(t *testing.T) {
	for what, s := range badSheets() {
		before := copiedSheet(s)
		calm(t, what, func() {
			for name, a := range panelAnswers(s) {
				if a.ok || !isNothing(reflect.ValueOf(a.value)) {
					t.Errorf("%s: %s = %+v, %v", what, name, a.value, a.ok)
				}
			}
			checkCall(t, what, s, 0, 0, -1)
			if x, ok := impl.VoteCall(s, 0, 0, 0, 0); !isNoSheet(x) || ok {
				t.Errorf("%s: VoteCall = %+v, %v", what, x, ok)
			}
			if x, ok := impl.AddReview(s, impl.Review{}); !isNoSheet(x) || ok {
				t.Errorf("%s: AddReview = %+v, %v", what, x, ok)
			}
			for _, other := range []impl.Sheet{someSheet(), {Votes: make([][][]int, 3)}, {Items: unmarkedIfGood(s.Items), Votes: noVotes(s.Items)}} {
				for _, pair := range [][2]impl.Sheet{{s, other}, {other, s}} {
					if l, ok := impl.ChangedCalls(pair[0], pair[1]); len(l) != 0 || ok {
						t.Errorf("%s: ChangedCalls = %v, %v", what, l, ok)
					}
				}
			}
		})
		if !reflect.DeepEqual(copiedSheet(s), before) {
			t.Errorf("%s: the sheet is changed", what)
		}
	}
}

// A vote that is wrong is not made good by a vote over it.
func TestPromise33WrongVotesStay(t *testing.T) {
	for caller := range 3 {
		for _, at := range namesOfSheet(someSheet()) {
			for _, vote := range []int{-2, 4, 77} {
				s := changedSheet(someSheet(), func(s *impl.Sheet) { s.Votes[caller][at[0]][at[1]] = vote })
				if x, ok := impl.VoteCall(s, caller, at[0], at[1], 0); !isNoSheet(x) || ok {
					t.Errorf("VoteCall over %d = %+v, %v", vote, x, ok)
				}
			}
		}
	}
}

func TestPromise33PanelAcceptsAllArguments(t *testing.T) {
	for _, a := range wild {
		for _, b := range wild {
			calm(t, fmt.Sprint("calls with ", a, " and ", b), func() {
				good := a >= 0 && a <= 3 && b >= 0 && b <= 3
				s := someSheet()
				impl.VoteCall(s, a, b, a, b)
				impl.VoteCall(s, b, a, 0, 0)
				impl.AddReview(s, impl.Review{Item: a, Name: b, Mark: a})
				s.Votes[0][0][1], s.Votes[2][2][2] = a, b
				if is := impl.IsSheet(s); is != (a >= -1 && a <= 3 && b >= -1 && b <= 3) {
					t.Errorf("with the votes %d and %d IsSheet is %v", a, b, is)
				}
				panelAnswers(s)
				s = someSheet()
				s.Reviews = append(s.Reviews, impl.Review{Item: 3, Mark: a}, impl.Review{Item: 1, Mark: b})
				if is := impl.IsSheet(s); is != good {
					t.Errorf("with the reviews %d and %d IsSheet is %v", a, b, is)
				}
				panelAnswers(s)
				impl.NewSheet([]impl.Item{called("2T", false, a), called("3A 2T", true, a, b)})
			})
		}
	}
	for _, s := range []string{"", "\x00", "\xff", "\u20ac", "2T ", strings.Repeat("A", 100000)} {
		calm(t, "calls with wild strings", func() {
			l := []impl.Item{{Names: []string{"2T", s}, Marks: []int{0, 0}}}
			if x, ok := impl.NewSheet(l); !isNoSheet(x) || ok || impl.IsSheet(impl.Sheet{Items: l, Votes: noVotes(l)}) {
				t.Errorf("%.20q is taken as a name", s)
			}
		})
	}
}

func TestPromise33SheetsAreLeftAsTheyAre(t *testing.T) {
	manySheets(60, func(plain impl.Sheet) {
		s, other := sparedSheet(plain), sparedSheet(plain)
		before := wholeText(reflect.ValueOf(s))
		answers, further := panelAnswers(s), panelAnswers(s)
		fresh, ok := impl.NewSheet(s.Items)
		changed, good := impl.ChangedCalls(s, other)
		answers["NewSheet"], answers["ChangedCalls of two"] = answer{fresh, ok}, answer{changed, good}
		if wholeText(reflect.ValueOf(s)) != before || wholeText(reflect.ValueOf(other)) != before {
			t.Errorf("%s is changed", sheetText(plain))
		}
		for what, a := range answers {
			checkApart(t, what, a.value, s, other, further[what].value)
		}
		// What stands behind the lengths is not read.
		for what, a := range panelAnswers(plain) {
			if b := answers[what]; fmt.Sprintf("%+v", b) != fmt.Sprintf("%+v", a) {
				t.Errorf("%s of %s = %+v; with spare capacity %+v", what, sheetText(plain), a, b)
			}
		}
	})
}

// Slices of an argument may be the same memory; those of a result may not.
func TestPromise33ResultsOfSheetsShareNothing(t *testing.T) {
	row := []int{1, 0}
	rows := [][]int{row, row}
	names, marks := []string{"2T", "3A"}, []int{0, 0}
	items := []impl.Item{{Names: names, Marks: marks}, {Names: names, Marks: marks, Late: true}}
	s := impl.Sheet{Items: items, Votes: [][][]int{rows, rows, rows}}
	checkPanel(t, s)
	for what, a := range panelAnswers(s) {
		checkApart(t, what, a.value, s)
	}
	x, ok := impl.VoteCall(s, 1, 1, 0, 3)
	if want := (impl.Sheet{Items: items, Votes: [][][]int{{{1, 0}, {1, 0}}, {{1, 0}, {3, 0}}, {{1, 0}, {1, 0}}}}); !sameSheet(x, want) || !ok {
		t.Errorf("VoteCall = %+v, %v", x, ok)
	}
	fresh, ok := impl.NewSheet(items)
	if !sameSheet(fresh, impl.Sheet{Items: items, Votes: noVotes(items)}) || !ok {
		t.Errorf("NewSheet = %+v, %v", fresh, ok)
	}
	checkApart(t, "NewSheet", fresh, items)
}

// What is behind the lengths of votes and reviews makes no sheet good or bad.
func TestPromise33PanelReadsNothingBehindLists(t *testing.T) {
	for what, s := range goodSheets() {
		if !impl.IsSheet(sparedSheet(s)) {
			t.Errorf("%s: not valid with spare capacity", what)
		}
	}
	full := oneName("111", impl.Review{Mark: 2})
	for what, change := range map[string]func(s *impl.Sheet){
		"callers": func(s *impl.Sheet) { s.Votes = s.Votes[:2] },
		"items":   func(s *impl.Sheet) { s.Votes[1] = s.Votes[1][:0] },
		"names":   func(s *impl.Sheet) { s.Votes[1][0] = s.Votes[1][0][:0] },
		"an item": func(s *impl.Sheet) { s.Items = s.Items[:0] },
	} {
		if impl.IsSheet(changedSheet(full, change)) {
			t.Errorf("without %s the sheet is valid", what)
		}
	}
	unreviewed := changedSheet(full, func(s *impl.Sheet) { s.Reviews = s.Reviews[:0] })
	checkCall(t, "the review behind the length", unreviewed, 0, 0, 1)
	// The name and the votes behind the lengths are not there.
	s := sparedSheet(oneName("111"))
	checkCall(t, "a name behind the length", s, 0, 1, -1)
	checkCall(t, "an item behind the length", s, 1, 0, -1)
	for _, r := range []impl.Review{{Name: 1}, {Item: 1}} {
		if x, ok := impl.AddReview(s, r); !isNoSheet(x) || ok {
			t.Errorf("AddReview of %+v = %+v, %v", r, x, ok)
		}
	}
}
