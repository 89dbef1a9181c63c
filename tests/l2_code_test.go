package tests

import (
	"fmt"
	"math"
	"reflect"
	"slices"
	"strings"
	"testing"

	"loop.example/g00912/impl"
)

// someCode has families with several elements, with one and, the lifts, with none, and names that begin one another.
func someCode() impl.Code {
	return impl.Code{
		Elements: []impl.Element{
			{Name: "2T", Base: 130}, {Name: "3A", Base: 800}, {Name: "3AB", Level: 1, Base: 799},
			{Name: "CS", Family: 1, Level: 4, Base: 320}, {Name: "CSP", Family: 1, Level: 4, Base: 1},
			{Name: "STSQ", Family: 2, Level: 3, Base: 330}, {Name: "ZZ", Family: 4, Level: 2, Base: 2000},
		},
		Limits: []int{7, 3, 1, 0, 9}, Repeats: 2, Bonus: 10, Keeps: 80, Fall: 100,
	}
}

const someCodeText = "code 2 10 80 100\nlimits 7 3 1 0 9\n2T 0 0 130\n3A 0 0 800\n3AB 0 1 799\nCS 1 4 320\nCSP 1 4 1\nSTSQ 2 3 330\nZZ 4 2 2000\n"

// smallCode is a code with one element, with each number the least one that is allowed.
func smallCode() impl.Code {
	return impl.Code{Elements: []impl.Element{{Name: "A", Base: 1}}, Limits: []int{0, 0, 0, 0, 0}, Repeats: 1, Keeps: 50}
}

// largeCode is the code with the longest text: MaxElements elements, and each number the greatest one that is allowed.
func largeCode() impl.Code {
	c := impl.Code{Limits: []int{9, 9, 9, 9, 9}, Repeats: 3, Bonus: 20, Keeps: 100, Fall: 500}
	for i := range 24 {
		c.Elements = append(c.Elements, impl.Element{Name: "AAAA" + string(rune('A'+i)), Family: 4, Level: 4, Base: 2000})
	}
	return c
}

// mixedCode is a code of n elements whose numbers differ from one seed to the next one.
func mixedCode(seed, n int) impl.Code {
	next := mixing(seed)
	c := impl.Code{Repeats: 1 + next(3), Bonus: next(21), Keeps: 50 + next(51), Fall: next(501)}
	for range 5 {
		c.Limits = append(c.Limits, next(10))
	}
	for i := range n {
		name := string(rune('A'+i)) + strings.Repeat(string(rune('0'+next(10))), next(5))
		c.Elements = append(c.Elements, impl.Element{Name: name, Family: next(5), Level: next(5), Base: 1 + next(2000)})
	}
	return c
}

func someCodes() []impl.Code {
	codes := []impl.Code{someCode(), smallCode(), largeCode()}
	for n := 1; n <= 24; n++ {
		codes = append(codes, mixedCode(n, n), mixedCode(n+1000, n))
	}
	return codes
}

func copiedCode(c impl.Code) impl.Code {
	c.Elements, c.Limits = slices.Clone(c.Elements), slices.Clone(c.Limits)
	return c
}

// changedCode is someCode after a change.
func changedCode(change func(c *impl.Code)) impl.Code {
	c := someCode()
	change(&c)
	return c
}

// badCodes are wrong in one way each: by one at each bound, by wild numbers, by names and by lengths.
func badCodes() map[string]impl.Code {
	codes := map[string]impl.Code{
		"zero":           {},
		"no elements":    changedCode(func(c *impl.Code) { c.Elements = nil }),
		"empty elements": changedCode(func(c *impl.Code) { c.Elements = []impl.Element{} }),
		"no limits":      changedCode(func(c *impl.Code) { c.Limits = nil }),
		"four limits":    changedCode(func(c *impl.Code) { c.Limits = c.Limits[:4] }),
		"six limits":     changedCode(func(c *impl.Code) { c.Limits = append(c.Limits, 0) }),
		"25 elements": changedCode(func(c *impl.Code) {
			c.Elements = append(largeCode().Elements, impl.Element{Name: "Z", Base: 5})
		}),
		"10000 elements": changedCode(func(c *impl.Code) {
			c.Elements = slices.Repeat(c.Elements, 2000)
		}),
	}
	numbers := func(what string, set func(c *impl.Code, n int), bad ...int) {
		for _, n := range append(bad, math.MinInt, math.MinInt+1, -2147483649, 4294967296, math.MaxInt-1, math.MaxInt) {
			codes[fmt.Sprint(what, n)] = changedCode(func(c *impl.Code) { set(c, n) })
		}
	}
	numbers("Repeats", func(c *impl.Code, n int) { c.Repeats = n }, -1, 0, 4)
	numbers("Bonus", func(c *impl.Code, n int) { c.Bonus = n }, -1, 21)
	numbers("Keeps", func(c *impl.Code, n int) { c.Keeps = n }, -50, 0, 49, 101)
	numbers("Fall", func(c *impl.Code, n int) { c.Fall = n }, -1, 501)
	for i := range 5 {
		numbers(fmt.Sprint("Limits", i), func(c *impl.Code, n int) { c.Limits[i] = n }, -1, 10)
	}
	for i := range someCode().Elements {
		numbers(fmt.Sprint("Family", i), func(c *impl.Code, n int) { c.Elements[i].Family = n }, -1, 5)
		numbers(fmt.Sprint("Level", i), func(c *impl.Code, n int) { c.Elements[i].Level = n }, -1, 5)
		numbers(fmt.Sprint("Base", i), func(c *impl.Code, n int) { c.Elements[i].Base = n }, -1, 0, 2001)
	}
	for _, l := range [][]string{
		{"B", "A"}, {"A", "A"}, {"AB", "A"}, {"A", "9"}, {"A", "C", "B"}, {"A", "B", "B"}, {"A1", "A10", "A1"}, {"9", "10", "A"},
		{""}, {"", "A"}, {"a"}, {"A", "b"}, {"AAAAAA"}, {"A", "BBBBBB"}, {"A B"}, {" A"}, {"A\n"}, {"A-"}, {"\u00c4"}, {"\xff"}, {"A", "\u0411"},
	} {
		codes[fmt.Sprintf("names %q", l)] = namedCode(l...)
	}
	return codes
}

// namedCode is valid if the names are and increase.
func namedCode(names ...string) impl.Code {
	return changedCode(func(c *impl.Code) {
		c.Elements = nil
		for _, name := range names {
			c.Elements = append(c.Elements, impl.Element{Name: name, Base: 10})
		}
	})
}

func namesOf(c impl.Code) string {
	text := ""
	for _, x := range c.Elements {
		text += x.Name + " "
	}
	return text
}

func isNoCode(c impl.Code) bool { return reflect.DeepEqual(c, impl.Code{}) }

func TestCodeConstants(t *testing.T) {
	if impl.MaxElements != 24 || impl.MaxBase != 2000 || impl.Families != 5 {
		t.Error("limits", impl.MaxElements, impl.MaxBase, impl.Families)
	}
}

func TestIsElementName(t *testing.T) {
	const allowed = "ABCDEFGHIJKLMNOPQRSTUVWXYZ0123456789"
	for b := range 256 {
		want := strings.IndexByte(allowed, byte(b)) >= 0
		for _, s := range []string{string([]byte{byte(b)}), "3A" + string([]byte{byte(b)}), string([]byte{byte(b)}) + "T"} {
			if impl.IsElementName(s) != want {
				t.Errorf("IsElementName(%q) = %v", s, !want)
			}
		}
	}
	for n := range 9 {
		if s := strings.Repeat("7", n); impl.IsElementName(s) != (n >= 1 && n <= 5) {
			t.Errorf("IsElementName(%q) is wrong", s)
		}
	}
	for _, s := range []string{"\u00c4", "3\u00c5", "\uff21", "\u0663", "A\u0301", strings.Repeat("A", 100000)} {
		if impl.IsElementName(s) {
			t.Errorf("%q is an element name", s)
		}
	}
}

func TestIsCode(t *testing.T) {
	for _, c := range someCodes() {
		if !impl.IsCode(c) {
			t.Errorf("%+v is not valid", c)
		}
	}
	for what, c := range badCodes() {
		if impl.IsCode(c) {
			t.Errorf("%s: %+v is valid", what, c)
		}
	}
	for _, names := range [][]string{
		{"A"}, {"ZZZZZ"}, {"00000"}, {"A", "AA"}, {"3A", "3AB", "3B"}, {"9", "A"}, {"10", "9"}, {"A", "A0", "AA", "B"}, {"0", "00", "000", "0000", "00000"},
	} {
		if !impl.IsCode(namedCode(names...)) {
			t.Errorf("the names %v are not valid", names)
		}
	}
}

// Each number alone at each of its bounds, as a check of two numbers together would not be seen otherwise.
func TestIsCodeAtItsBounds(t *testing.T) {
	for i, c := range []impl.Code{
		changedCode(func(c *impl.Code) { c.Repeats = 1 }), changedCode(func(c *impl.Code) { c.Repeats = 3 }),
		changedCode(func(c *impl.Code) { c.Bonus = 0 }), changedCode(func(c *impl.Code) { c.Bonus = 20 }),
		changedCode(func(c *impl.Code) { c.Keeps = 50 }), changedCode(func(c *impl.Code) { c.Keeps = 100 }),
		changedCode(func(c *impl.Code) { c.Fall = 0 }), changedCode(func(c *impl.Code) { c.Fall = 500 }),
		changedCode(func(c *impl.Code) { c.Limits[0] = 0 }), changedCode(func(c *impl.Code) { c.Limits[4] = 9 }),
		changedCode(func(c *impl.Code) { c.Elements[0].Family = 4 }), changedCode(func(c *impl.Code) { c.Elements[6].Family = 0 }),
		changedCode(func(c *impl.Code) { c.Elements[0].Level = 4 }), changedCode(func(c *impl.Code) { c.Elements[6].Level = 0 }),
		changedCode(func(c *impl.Code) { c.Elements[0].Base = 1 }), changedCode(func(c *impl.Code) { c.Elements[0].Base = 2000 }),
		changedCode(func(c *impl.Code) { c.Elements = largeCode().Elements }), changedCode(func(c *impl.Code) { c.Elements = c.Elements[:1] }),
	} {
		if !impl.IsCode(c) {
			t.Errorf("code %d is not valid: %+v", i, c)
		}
	}
}

func TestFindElement(t *testing.T) {
	for _, c := range someCodes() {
		for i, x := range c.Elements {
			if k, ok := impl.FindElement(c, x.Name); k != i || !ok {
				t.Errorf("FindElement of %q in %v = %d, %v", x.Name, namesOf(c), k, ok)
			}
		}
	}
	for _, name := range []string{"", "2", "3", "3AA", "3ABC", "2t", "A", "CSPX", "STSQ ", " 2T", "2T\x00", "ZZZ", "zz", "\xff"} {
		if k, ok := impl.FindElement(someCode(), name); k != 0 || ok {
			t.Errorf("FindElement of %q = %d, %v", name, k, ok)
		}
	}
}

func TestFamilies(t *testing.T) {
	for family, want := range []struct {
		indices, levels []int
		greatest        int
	}{
		{[]int{0, 1, 2}, []int{2, 1, 0, 0, 0}, 800},
		{[]int{3, 4}, []int{0, 0, 0, 0, 2}, 320},
		{[]int{5}, []int{0, 0, 0, 1, 0}, 330},
		{nil, []int{0, 0, 0, 0, 0}, 0},
		{[]int{6}, []int{0, 0, 1, 0, 0}, 2000},
	} {
		if l, ok := impl.OfFamily(someCode(), family); !slices.Equal(l, want.indices) || !ok {
			t.Errorf("OfFamily %d = %v, %v", family, l, ok)
		}
		if l, ok := impl.LevelsOf(someCode(), family); !slices.Equal(l, want.levels) || !ok {
			t.Errorf("LevelsOf %d = %v, %v", family, l, ok)
		}
		if n, ok := impl.GreatestBase(someCode(), family); n != want.greatest || !ok {
			t.Errorf("GreatestBase %d = %d, %v", family, n, ok)
		}
	}
	for _, family := range append([]int{5}, slices.DeleteFunc(slices.Clone(wild), func(n int) bool { return n >= 0 && n < 5 })...) {
		l, ok := impl.OfFamily(someCode(), family)
		m, good := impl.LevelsOf(someCode(), family)
		n, fine := impl.GreatestBase(someCode(), family)
		if len(l) != 0 || ok || len(m) != 0 || good || n != 0 || fine {
			t.Errorf("family %d: %v, %v; %v, %v; %d, %v", family, l, ok, m, good, n, fine)
		}
	}
}

func TestPromise2FamiliesHaveAllElementsOnce(t *testing.T) {
	for _, c := range someCodes() {
		times := make([]int, len(c.Elements))
		for family := range 5 {
			indices, ok1 := impl.OfFamily(c, family)
			levels, ok2 := impl.LevelsOf(c, family)
			greatest, ok3 := impl.GreatestBase(c, family)
			if !ok1 || !ok2 || !ok3 || len(levels) != 5 {
				t.Fatalf("family %d of %+v: %v, %v, %v, %v", family, c, levels, ok1, ok2, ok3)
			}
			most := 0
			for i, k := range indices {
				times[k]++
				levels[c.Elements[k].Level]--
				most = max(most, c.Elements[k].Base)
				if c.Elements[k].Family != family || i > 0 && indices[i-1] >= k {
					t.Errorf("family %d of %+v: %v", family, c, indices)
				}
			}
			if !slices.Equal(levels, repeated(0, 5)) || greatest != most {
				t.Errorf("family %d of %+v: levels off by %v, greatest base %d", family, c, levels, greatest)
			}
		}
		if !slices.Equal(times, repeated(1, len(c.Elements))) {
			t.Errorf("the families of %+v have its elements %v times", c, times)
		}
	}
}

func TestAddElement(t *testing.T) {
	for _, a := range []struct {
		name string
		at   int
	}{
		{"0", 0}, {"2S", 0}, {"2TA", 1}, {"3", 1}, {"3A0", 2}, {"3AA", 2}, {"3AB0", 3}, {"C", 3}, {"CS1", 4}, {"CT", 5}, {"Z", 6}, {"ZZ0", 7}, {"ZZZZZ", 7},
	} {
		x := impl.Element{Name: a.name, Family: 3, Level: 4, Base: 17}
		want := someCode()
		want.Elements = slices.Insert(want.Elements, a.at, x)
		if c, ok := impl.AddElement(someCode(), x); !reflect.DeepEqual(c, want) || !ok {
			t.Errorf("AddElement of %q = %+v, %v", a.name, c, ok)
		}
	}
	bad := []impl.Element{{}, {Name: "X"}, {Base: 5}}
	for _, name := range append([]string{"", "a", "AAAAAA", "X Y", "X\n", "\u00c4", "\xff"}, strings.Fields(namesOf(someCode()))...) {
		bad = append(bad, impl.Element{Name: name, Base: 5}, impl.Element{Name: name, Family: 4, Level: 1, Base: 2000})
	}
	for _, n := range append([]int{5, 2001}, wild...) {
		if n < 0 || n > 4 {
			bad = append(bad, impl.Element{Name: "X", Family: n, Base: 5}, impl.Element{Name: "X", Level: n, Base: 5})
		}
		if n < 1 || n > 2000 {
			bad = append(bad, impl.Element{Name: "X", Base: n})
		}
	}
	for _, x := range bad {
		if c, ok := impl.AddElement(someCode(), x); !isNoCode(c) || ok {
			t.Errorf("AddElement of %+v = %+v, %v", x, c, ok)
		}
	}
}

func TestAddElementUpToTheMost(t *testing.T) {
	c := smallCode()
	for i := 1; i < 24; i++ {
		var ok bool
		if c, ok = impl.AddElement(c, impl.Element{Name: string(rune('A' + i)), Base: i}); len(c.Elements) != i+1 || !ok {
			t.Fatalf("AddElement up to %d: %+v, %v", i+1, c, ok)
		}
	}
	for _, name := range []string{"0", "BB", "Z"} {
		if c, ok := impl.AddElement(c, impl.Element{Name: name, Base: 5}); !isNoCode(c) || ok {
			t.Errorf("a 25th element is added: %+v, %v", c, ok)
		}
	}
}

func TestDropElement(t *testing.T) {
	for i, x := range someCode().Elements {
		want := someCode()
		want.Elements = slices.Delete(want.Elements, i, i+1)
		if c, ok := impl.DropElement(someCode(), x.Name); !reflect.DeepEqual(c, want) || !ok {
			t.Errorf("DropElement of %q = %+v, %v", x.Name, c, ok)
		}
	}
	for _, name := range []string{"", "2", "3", "3AA", "2t", "ZZZ", "2T ", "\xff"} {
		if c, ok := impl.DropElement(someCode(), name); !isNoCode(c) || ok {
			t.Errorf("DropElement of %q = %+v, %v", name, c, ok)
		}
	}
	if c, ok := impl.DropElement(smallCode(), "A"); !isNoCode(c) || ok {
		t.Errorf("the last element is dropped: %+v, %v", c, ok)
	}
	if c, ok := impl.DropElement(largeCode(), "AAAAA"); len(c.Elements) != 23 || c.Elements[0].Name != "AAAAB" || !ok {
		t.Errorf("the first one of 24 elements is not dropped: %+v, %v", c, ok)
	}
}

func TestDroppedElementsAreAddedAgain(t *testing.T) {
	for _, c := range someCodes() {
		for _, x := range c.Elements {
			less, ok := impl.DropElement(c, x.Name)
			if ok != (len(c.Elements) > 1) {
				t.Errorf("DropElement of %q from %v: %v", x.Name, namesOf(c), ok)
			}
			if again, good := impl.AddElement(less, x); good != ok || ok && !reflect.DeepEqual(again, c) || !ok && !isNoCode(again) {
				t.Errorf("%q is dropped and added: %+v, %v", x.Name, again, good)
			}
		}
	}
}

func TestScaleCode(t *testing.T) {
	for _, s := range []struct{ base, percent, want int }{
		{130, 50, 65}, {130, 100, 130}, {130, 200, 260}, {130, 1, 1}, {199, 1, 1}, {200, 1, 2}, {99, 1, 1}, {2000, 1, 20},
		{1, 1, 1}, {1, 99, 1}, {1, 100, 1}, {1, 199, 1}, {1, 200, 2}, {3, 50, 1}, {3, 99, 2}, {799, 50, 399}, {333, 33, 109},
		{2000, 100, 2000}, {1000, 200, 2000}, {1999, 100, 1999}, {1600, 125, 2000}, {1001, 199, 1991}, {1981, 101, 2000},
	} {
		want := smallCode()
		want.Elements[0].Base = s.want
		c := smallCode()
		c.Elements[0].Base = s.base
		if x, ok := impl.ScaleCode(c, s.percent); !reflect.DeepEqual(x, want) || !ok {
			t.Errorf("ScaleCode of %d by %d = %+v, %v", s.base, s.percent, x, ok)
		}
	}
	for _, s := range [][2]int{{2000, 101}, {1001, 200}, {1601, 125}, {1982, 101}, {2000, 200}} {
		c := someCode()
		c.Elements[6].Base = s[0]
		if x, ok := impl.ScaleCode(c, s[1]); !isNoCode(x) || ok {
			t.Errorf("ScaleCode of %d by %d = %+v, %v", s[0], s[1], x, ok)
		}
	}
	for _, percent := range append([]int{201}, wild...) {
		if x, ok := impl.ScaleCode(smallCode(), percent); ok != (percent >= 1 && percent <= 200) || isNoCode(x) == ok {
			t.Errorf("ScaleCode by %d = %+v, %v", percent, x, ok)
		}
	}
	if x, ok := impl.ScaleCode(someCode(), 100); !reflect.DeepEqual(x, someCode()) || !ok {
		t.Errorf("ScaleCode by 100 = %+v, %v", x, ok)
	}
}

func TestPromise2ScaledBasesGrow(t *testing.T) {
	for _, c := range someCodes() {
		before := repeated(1, len(c.Elements))
		fits := true
		for percent := 1; percent <= 200; percent++ {
			x, ok := impl.ScaleCode(c, percent)
			if ok && !fits {
				t.Errorf("ScaleCode by %d of %+v gives more than a lower percent", percent, c)
			}
			fits = ok
			for i := range x.Elements {
				base, old := x.Elements[i].Base, c.Elements[i].Base
				if base < before[i] || percent <= 100 && base > old || percent >= 100 && base < old {
					t.Errorf("ScaleCode by %d: %d becomes %d, after %d", percent, old, base, before[i])
				}
				before[i] = base
				x.Elements[i].Base = old
			}
			if ok && !reflect.DeepEqual(x, c) || ok != impl.IsCode(x) {
				t.Errorf("ScaleCode by %d of %+v changes more than bases: %+v", percent, c, x)
			}
		}
	}
}

func TestPromise2ScaledBasesGrowWithBases(t *testing.T) {
	for _, percent := range []int{1, 2, 49, 50, 99, 100, 101, 150, 199, 200} {
		last := 1
		for base := 1; base <= 2000; base++ {
			c := smallCode()
			c.Elements[0].Base = base
			x, ok := impl.ScaleCode(c, percent)
			if ok != (base*percent < 200100) {
				t.Errorf("ScaleCode of %d by %d: %v", base, percent, ok)
			}
			if ok {
				if x.Elements[0].Base < last {
					t.Errorf("ScaleCode by %d: %d is worth less than what has a lower base", percent, base)
				}
				last = x.Elements[0].Base
			}
		}
	}
}

func TestCodeText(t *testing.T) {
	for text, c := range map[string]impl.Code{
		someCodeText: someCode(),
		"code 1 0 50 0\nlimits 0 0 0 0 0\nA 0 0 1\n": smallCode(),
	} {
		if s, ok := impl.CodeText(c); s != text || !ok {
			t.Errorf("CodeText = %q, %v; want %q", s, ok, text)
		}
		if x, ok := impl.ParseCode(text); !reflect.DeepEqual(x, c) || !ok {
			t.Errorf("ParseCode of %q = %+v, %v", text, x, ok)
		}
	}
	large := "code 3 20 100 500\nlimits 9 9 9 9 9\n"
	for _, x := range largeCode().Elements {
		large += x.Name + " 4 4 2000\n"
	}
	if s, ok := impl.CodeText(largeCode()); s != large || !ok {
		t.Errorf("CodeText = %q, %v; want %q", s, ok, large)
	}
}

func TestPromise2TextsOfCodesAreReadBack(t *testing.T) {
	for _, c := range someCodes() {
		s, ok := impl.CodeText(c)
		if !ok || strings.Count(s, "\n") != 2+len(c.Elements) {
			t.Errorf("CodeText of %+v = %q, %v", c, s, ok)
		}
		if x, ok := impl.ParseCode(s); !reflect.DeepEqual(x, c) || !ok {
			t.Errorf("ParseCode of %q = %+v, %v", s, x, ok)
		}
	}
}

func TestParseCodeOfNearlyTexts(t *testing.T) {
	lines := strings.SplitAfter(someCodeText, "\n")
	head, limits, elements := lines[0], lines[1], strings.Join(lines[2:], "")
	texts := []string{
		"", "\n", "\n\n", "\n\n\n", " ", "code", "code\n", head, head + limits, head + elements, limits + elements, elements, limits + head + elements,
		head + limits + "\n", head + limits + "\n" + elements, head + "\n" + limits + elements, "\n" + someCodeText, someCodeText + "\n", someCodeText + " ", someCodeText + "\x00",
		strings.TrimSuffix(someCodeText, "\n"), strings.ReplaceAll(someCodeText, "\n", "\r\n"), strings.ReplaceAll(someCodeText, "\n", " \n"),
		strings.ReplaceAll(someCodeText, "\n", "\n "), strings.ReplaceAll(someCodeText, " ", "  "), strings.ReplaceAll(someCodeText, " ", "\t"),
		strings.ReplaceAll(someCodeText, "\n", "\r"), strings.ReplaceAll(someCodeText, "\n", ";"), strings.ToLower(someCodeText),
		head + head + limits + elements, head + limits + limits + elements, head + limits + elements + elements, someCodeText + "3A 0 0 800\n", someCodeText + "ZZ 4 2 2000\n",
		head + limits + lines[3] + lines[2], someCodeText + head, someCodeText + strings.Repeat("\n", 100000), strings.Repeat(someCodeText, 2000),
		strings.Repeat(" ", 100000), strings.Repeat("\n", 100000), strings.Repeat("9", 100000), strings.Repeat("\xff\n", 100000), "\ufeff" + someCodeText,
		head + limits + strings.Repeat("3A 0 0 800\n", 25),
	}
	for _, first := range []string{
		"code 2 10 80", "code 2 10 80 100 0", "code 2 10 80 0100", "code 2 10 80 100 ", "code 2 10 80  100", " code 2 10 80 100", "code  2 10 80 100", "Code 2 10 80 100",
		"codes 2 10 80 100", "2 10 80 100", "cod 2 10 80 100", "code 02 10 80 100", "code +2 10 80 100", "code -0 10 80 100", "code 2 -0 80 100", "code 2 10 80 1e2", "code 2 10 80 0x64",
		"code 2 10 80 1_00", "code 2.0 10 80 100", "code 2 10 80 -100", "code 0 10 80 100", "code 4 10 80 100", "code 2 21 80 100", "code 2 -1 80 100", "code 2 10 49 100", "code 2 10 101 100",
		"code 2 10 80 501", "code 2 10 80 -1", "code 2 10 80 18446744073709551716", "code 2 10 80 9223372036854775807", "code 2 10 80 -9223372036854775808", "code 2 10 80 x", "code 2,10,80,100", "code2 10 80 100",
	} {
		texts = append(texts, first+"\n"+limits+elements)
	}
	for _, second := range []string{
		"limits", "limits ", "limits 7 3 1 0", "limits 7 3 1 0 9 0", "limits 7 3 1 0 10", "limits 7 3 1 -1 9", "limits 7 3 1 00 9", "limits 7 3 1 -0 9", "limits 7 3 1 +0 9", "limits 7  3 1 0 9",
		"limits 7 3 1 0 9 ", " limits 7 3 1 0 9", "limit 7 3 1 0 9", "7 3 1 0 9", "Limits 7 3 1 0 9", "limits 07 3 1 0 9", "limits 7 3 1 0 x", "limits 73109", "limits 7 3 1 0 18446744073709551625",
	} {
		texts = append(texts, head+second+"\n"+elements)
	}
	for _, third := range []string{
		"2T", "2T 0 0", "2T 0 0 130 0", "2T 0 0 0130", "2T 0 0 130 ", "2T 0 0  130", " 2T 0 0 130", "2T  0 0 130", "2t 0 0 130", " 0 0 130", "0 0 130", "2T 00 0 130", "2T 0 00 130", "2T -0 0 130", "2T 0 -0 130",
		"2T +0 0 130", "2T 0 0 +130", "2T 0 0 0", "2T 0 0 2001", "2T 0 0 -130", "2T 5 0 130", "2T 0 5 130", "2T -1 0 130", "2T 0 -1 130", "2TTTTT 0 0 130", "2-T 0 0 130", "2T 0 0 1.30", "2T 0 0 x", "2T,0,0,130",
		"2T 0 0 18446744073709551746", "4T 0 0 130", "3A 0 0 130", "\u00c4 0 0 130", "2T\u00a00 0 130", "2T 0 0 \u0661\u0663\u0660", "2T 0 0 130\t", "2T 0 0 130\r", "2T 0 0 130\x00", "2T 0 0 130 2T 0 0 130",
	} {
		texts = append(texts, head+limits+third+"\n"+strings.Join(lines[3:], ""))
	}
	for _, s := range texts {
		if c, ok := impl.ParseCode(s); !isNoCode(c) || ok {
			t.Errorf("ParseCode of %.200q = %+v, %v", s, c, ok)
		}
	}
}

// What is read has the text from which it is read, so no other text can be accepted.
func TestParseCodeOfChangedTexts(t *testing.T) {
	for _, code := range []impl.Code{someCode(), smallCode(), largeCode()} {
		text, _ := impl.CodeText(code)
		for i := range len(text) + 1 {
			for _, b := range []byte("0123459ABZaz -+._\n\t\r\x00\x80\xff") {
				changed := []string{text[:i] + string([]byte{b}) + text[i:]}
				if i < len(text) {
					changed = append(changed, text[:i]+string([]byte{b})+text[i+1:], text[:i]+text[i+1:], text[:i])
				}
				for _, s := range changed {
					c, ok := impl.ParseCode(s)
					if back, good := impl.CodeText(c); ok && (back != s || !good) || !ok && !isNoCode(c) {
						t.Errorf("ParseCode of %q = %+v, %v", s, c, ok)
					}
				}
			}
		}
	}
}

func TestPromise33CodesThatAreNotValid(t *testing.T) {
	for what, c := range badCodes() {
		before := copiedCode(c)
		calm(t, what, func() {
			if k, ok := impl.FindElement(c, "3A"); k != 0 || ok {
				t.Errorf("%s: FindElement = %d, %v", what, k, ok)
			}
			if l, ok := impl.OfFamily(c, 0); len(l) != 0 || ok {
				t.Errorf("%s: OfFamily = %v, %v", what, l, ok)
			}
			if l, ok := impl.LevelsOf(c, 0); len(l) != 0 || ok {
				t.Errorf("%s: LevelsOf = %v, %v", what, l, ok)
			}
			if n, ok := impl.GreatestBase(c, 0); n != 0 || ok {
				t.Errorf("%s: GreatestBase = %d, %v", what, n, ok)
			}
			if x, ok := impl.AddElement(c, impl.Element{Name: "X", Base: 5}); !isNoCode(x) || ok {
				t.Errorf("%s: AddElement = %+v, %v", what, x, ok)
			}
			for _, percent := range []int{1, 50, 100} {
				if x, ok := impl.ScaleCode(c, percent); !isNoCode(x) || ok {
					t.Errorf("%s: ScaleCode by %d = %+v, %v", what, percent, x, ok)
				}
			}
			if s, ok := impl.CodeText(c); s != "" || ok {
				t.Errorf("%s: CodeText = %q, %v", what, s, ok)
			}
			// What is wrong must not be dropped and so made good.
			for _, x := range c.Elements[:min(len(c.Elements), 30)] {
				if y, ok := impl.DropElement(c, x.Name); !isNoCode(y) || ok {
					t.Errorf("%s: DropElement of %q = %+v, %v", what, x.Name, y, ok)
				}
			}
		})
		if !reflect.DeepEqual(copiedCode(c), before) {
			t.Errorf("%s: the code is changed", what)
		}
	}
}

func TestPromise33CodesAcceptAllArguments(t *testing.T) {
	for _, a := range wild {
		for _, b := range wild {
			c := changedCode(func(c *impl.Code) { c.Elements[0].Family, c.Elements[0].Level = a, b })
			calm(t, "calls of a wild element", func() {
				impl.IsCode(c)
				impl.OfFamily(c, a)
				impl.LevelsOf(c, a)
				impl.GreatestBase(c, b)
			})
			calm(t, "calls with wild numbers", func() {
				impl.AddElement(someCode(), impl.Element{Name: "X", Family: a, Level: b, Base: a})
				impl.ScaleCode(changedCode(func(c *impl.Code) { c.Elements[0].Base = a }), b)
			})
		}
	}
	for _, s := range []string{"", "\x00", "\xff", "\u20ac", strings.Repeat("A", 100000), strings.Repeat("code ", 100000)} {
		calm(t, "calls with wild strings", func() {
			impl.IsElementName(s)
			impl.FindElement(someCode(), s)
			impl.DropElement(someCode(), s)
			impl.AddElement(someCode(), impl.Element{Name: s, Base: 5})
			if c, ok := impl.ParseCode(s); !isNoCode(c) || ok {
				t.Errorf("ParseCode = %+v, %v", c, ok)
			}
		})
	}
}

// sparedCode returns a copy of a code whose slices have spare capacity, and a
// function that tells whether they and what is behind them are as they were.
func sparedCode(c impl.Code) (impl.Code, func() bool) {
	elements := append(slices.Clone(c.Elements), impl.Element{Name: "ZZZZZ", Base: 77}, impl.Element{Name: "ZZZZZ", Base: -77})
	before := slices.Clone(elements)
	limits, same := spared(c.Limits)
	c.Elements, c.Limits = elements[:len(c.Elements)], limits
	return c, func() bool { return slices.Equal(elements, before) && same() }
}

// spoil overwrites all that a code holds, with its spare capacity.
func spoil(c impl.Code) {
	for i := range c.Elements[:cap(c.Elements)] {
		c.Elements[:cap(c.Elements)][i] = impl.Element{Name: "SPOIL", Base: 12345}
	}
	spoilNumbers(c.Limits)
}

func spoilNumbers(l []int) {
	for i := range l[:cap(l)] {
		l[:cap(l)][i] = 12345
	}
}

func TestPromise33CodesAreLeftAsTheyAre(t *testing.T) {
	for _, original := range someCodes() {
		c, same := sparedCode(original)
		impl.IsCode(c)
		impl.CodeText(c)
		for _, x := range original.Elements {
			impl.FindElement(c, x.Name)
			less, _ := impl.DropElement(c, x.Name)
			spoil(less)
		}
		for family := range 5 {
			impl.GreatestBase(c, family)
			indices, _ := impl.OfFamily(c, family)
			spoilNumbers(indices)
			levels, _ := impl.LevelsOf(c, family)
			spoilNumbers(levels)
		}
		for _, name := range []string{"0", "AZ", "M", "ZZZZ"} {
			more, _ := impl.AddElement(c, impl.Element{Name: name, Base: 5})
			spoil(more)
		}
		for _, percent := range []int{1, 50, 100} {
			scaled, _ := impl.ScaleCode(c, percent)
			spoil(scaled)
		}
		if !same() {
			t.Errorf("%+v is changed", original)
		}
	}
}

func TestPromise33ResultsOfCodesShareNothing(t *testing.T) {
	calls := map[string]func() impl.Code{
		"AddElement":  func() impl.Code { c, _ := impl.AddElement(someCode(), impl.Element{Name: "4S", Base: 970}); return c },
		"DropElement": func() impl.Code { c, _ := impl.DropElement(someCode(), "3A"); return c },
		"ScaleCode":   func() impl.Code { c, _ := impl.ScaleCode(someCode(), 50); return c },
		"ParseCode":   func() impl.Code { c, _ := impl.ParseCode(someCodeText); return c },
	}
	for what, call := range calls {
		first, second := call(), call()
		if isNoCode(first) || !reflect.DeepEqual(first, second) {
			t.Errorf("%s: %+v and %+v", what, first, second)
		}
		kept := copiedCode(second)
		spoil(first)
		if !reflect.DeepEqual(second, kept) {
			t.Errorf("%s: two results share memory", what)
		}
		elements := slices.Clone(second.Elements)
		spoilNumbers(second.Limits)
		if !slices.Equal(second.Elements, elements) || !reflect.DeepEqual(call(), kept) {
			t.Errorf("%s: a result shares memory with itself or with a later one", what)
		}
	}
	levels, _ := impl.LevelsOf(someCode(), 0)
	spoilNumbers(levels)
	indices, _ := impl.OfFamily(someCode(), 0)
	spoilNumbers(indices)
	levels, _ = impl.LevelsOf(someCode(), 0)
	indices, _ = impl.OfFamily(someCode(), 0)
	if !slices.Equal(levels, []int{2, 1, 0, 0, 0}) || !slices.Equal(indices, []int{0, 1, 2}) {
		t.Errorf("results are kept: %v, %v", levels, indices)
	}
}
