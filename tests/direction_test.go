package tests

import (
	"fmt"
	"slices"
	"strings"
	"testing"

	"loop.example/typesetting/impl"
)

// Classes of characters.
const (
	upper = iota
	lower
	digit
	other
)

// classOf returns the class of a character.
func classOf(c byte) int {
	switch {
	case strings.IndexByte("ABCDEFGHIJKLMNOPQRSTUVWXYZ", c) >= 0:
		return upper
	case strings.IndexByte("abcdefghijklmnopqrstuvwxyz", c) >= 0:
		return lower
	case strings.IndexByte("0123456789", c) >= 0:
		return digit
	}
	return other
}

// allCharacters returns the characters from ' ' to '~'.
func allCharacters() string {
	var b strings.Builder
	for c := 32; c <= 126; c++ {
		b.WriteByte(byte(c))
	}
	return b.String()
}

// someTexts goes over valid texts with both bases.
func someTexts(visit func(s string, base int)) {
	both := func(s string) {
		visit(s, 0)
		visit(s, 1)
	}
	allTexts("aA1 ", 7, both)
	allTexts("zZ9.A0", 4, both)
	characters := allCharacters()
	for i := range characters {
		c := characters[i : i+1]
		for _, s := range []string{c, c + c, "a" + c, "A" + c, "1" + c, c + "a", c + "A", c + "1", "A" + c + "A", "A" + c + "1", "a" + c + "a", "a" + c + "1", "a" + c + "A", "1" + c + "1"} {
			both(s)
		}
	}
	for _, c := range "aZ0 @[`{/:~" {
		both(strings.Repeat(string(c), 60))
	}
	r := fixed()
	for range 3000 {
		both(randomText(r, []string{characters, "abYZ019 .", "AZ19 -", "aZ  "}[r.Intn(4)], r.Intn(61)))
	}
}

// invalidTexts are texts that have no levels.
func invalidTexts() []string {
	list := []string{strings.Repeat("a", 61), strings.Repeat(" ", 61), strings.Repeat("A", 10000), "\u00e9", "\u05d0", "\u0661", "\xff", "a\x80b"}
	for c := range 256 {
		if c < 32 || c > 126 {
			b := string([]byte{byte(c)})
			list = append(list, b, b+"a", "A"+b, "1"+b+"a")
		}
	}
	return list
}

// nearest returns the level of the next character with a direction from place i on, to the left or to the right.
func nearest(s string, levels []int, i, step, base int) int {
	for ; i >= 0 && i < len(s); i += step {
		if classOf(s[i]) != other {
			return levels[i]
		}
	}
	return base
}

// wantTextLevels finds the levels of each character from what surrounds it.
func wantTextLevels(s string, base int) []int {
	levels := make([]int, len(s))
	for i := range s {
		switch classOf(s[i]) {
		case upper:
			levels[i] = 1
		case lower:
			levels[i] = []int{0, 2}[base]
		case digit:
			k := i
			for k > 0 && classOf(s[k]) > lower {
				k--
			}
			if base == 1 || classOf(s[k]) == upper {
				levels[i] = 2
			}
		}
	}
	for i := range s {
		if classOf(s[i]) != other {
			continue
		}
		before, behind := nearest(s, levels, i, -1, base), nearest(s, levels, i, 1, base)
		switch {
		case base == 0 && before == 1 && behind == 1:
			levels[i] = 1
		case base == 1 && before != 1 && behind != 1:
			levels[i] = 2
		default:
			levels[i] = base
		}
	}
	return levels
}

// wantOrder shows the pieces of a level from left to right or from right to left, and runs of greater levels in the same way.
func wantOrder(levels []int) []int {
	return orderBetween(levels, 0, len(levels), 0)
}

func orderBetween(levels []int, from, to, level int) []int {
	var pieces [][]int
	for i := from; i < to; {
		k := i
		for k < to && levels[k] > level {
			k++
		}
		if k == i {
			k++
			pieces = append(pieces, []int{i})
		} else {
			pieces = append(pieces, orderBetween(levels, i, k, level+1))
		}
		i = k
	}
	if level%2 == 1 {
		slices.Reverse(pieces)
	}
	return slices.Concat(pieces...)
}

// someLevels goes over valid levels.
func someLevels(visit func(levels []int)) {
	allLevels(4, 0, 6, visit)
	allLevels(7, 0, 2, visit)
	for level := range 7 {
		visit(slices.Repeat([]int{level}, 60))
	}
	r := fixed()
	for range 3000 {
		levels := make([]int, r.Intn(61))
		most := 1 + r.Intn(7)
		for i := range levels {
			levels[i] = r.Intn(most)
		}
		visit(levels)
	}
}

// allLevels goes over all lists of at most n numbers in low..high.
func allLevels(n, low, high int, visit func(levels []int)) {
	var extend func(levels []int)
	extend = func(levels []int) {
		visit(levels)
		for level := low; level <= high && len(levels) < n; level++ {
			extend(append(slices.Clone(levels), level))
		}
	}
	extend(nil)
}

// equalText reports an error if a text is not as expected.
func equalText(t *testing.T, what, got, want string) {
	t.Helper()
	if got != want {
		t.Errorf("%s = %q, want %q", what, got, want)
	}
}

// reversed returns a list from its end to its beginning.
func reversed(list []int) []int {
	list = slices.Clone(list)
	slices.Reverse(list)
	return list
}

func TestLevelsOfWordsDigitsAndOtherCharacters(t *testing.T) {
	for _, c := range []struct {
		s    string
		base int
		want []int
	}{
		{"", 0, nil}, {"", 1, nil},
		{"a", 0, []int{0}}, {"a", 1, []int{2}}, {"A", 0, []int{1}}, {"A", 1, []int{1}}, {"1", 0, []int{0}}, {"1", 1, []int{2}}, {" ", 0, []int{0}}, {" ", 1, []int{1}},
		{"A1", 0, []int{1, 2}}, {"1A", 0, []int{0, 1}}, {"A1a2", 0, []int{1, 2, 0, 0}}, {"a1A2", 0, []int{0, 0, 1, 2}}, {"A 1", 0, []int{1, 0, 2}}, {"A 1 2", 0, []int{1, 0, 2, 0, 2}},
		{"aA1", 1, []int{2, 1, 2}}, {"a1", 1, []int{2, 2}}, {"1a", 1, []int{2, 2}},
		{"A B", 0, []int{1, 1, 1}}, {"A, B", 0, []int{1, 1, 1, 1}}, {"A b", 0, []int{1, 0, 0}}, {"a B", 0, []int{0, 0, 1}}, {"a b", 0, []int{0, 0, 0}}, {"A1 B", 0, []int{1, 2, 0, 1}}, {"A1 2B", 0, []int{1, 2, 0, 2, 1}},
		{"A B", 1, []int{1, 1, 1}}, {"A b", 1, []int{1, 1, 2}}, {"a B", 1, []int{2, 1, 1}}, {"a b", 1, []int{2, 2, 2}}, {"a 1", 1, []int{2, 2, 2}}, {"1 2", 1, []int{2, 2, 2}}, {"A 1", 1, []int{1, 1, 2}},
		{" A ", 0, []int{0, 1, 0}}, {" a ", 0, []int{0, 0, 0}}, {"  A B  ", 0, []int{0, 0, 1, 1, 1, 0, 0}}, {" A1 ", 0, []int{0, 1, 2, 0}},
		{" a ", 1, []int{1, 2, 1}}, {" A ", 1, []int{1, 1, 1}}, {"  a b  ", 1, []int{1, 1, 2, 2, 2, 1, 1}}, {" 1 ", 1, []int{1, 2, 1}}, {"   ", 0, []int{0, 0, 0}}, {"   ", 1, []int{1, 1, 1}},
	} {
		equalInts(t, fmt.Sprintf("LevelsOf(%q, %d)", c.s, c.base), impl.LevelsOf(c.s, c.base), c.want...)
		equalInts(t, fmt.Sprintf("the model of %q, %d", c.s, c.base), wantTextLevels(c.s, c.base), c.want...)
	}
}

func TestP91DirectionsFailForInvalidTexts(t *testing.T) {
	check := func(s string, base int) {
		if levels := impl.LevelsOf(s, base); levels != nil {
			t.Errorf("LevelsOf(%.70q, %d) = %v", s, base, levels)
		}
		if shown := impl.ShowText(s, base); shown != "" {
			t.Errorf("ShowText(%.70q, %d) = %q", s, base, shown)
		}
	}
	for _, s := range invalidTexts() {
		for base := -1; base <= 2; base++ {
			check(s, base)
		}
	}
	for _, base := range append([]int{2, 3}, extremes...) {
		if base == 0 || base == 1 {
			continue
		}
		for _, s := range []string{"", "a", "A", "1", " ", "ab CD 12", strings.Repeat("A", 60)} {
			check(s, base)
		}
	}
	for _, c := range "aA1 " {
		s := strings.Repeat(string(c), 60)
		if levels := impl.LevelsOf(s, 0); len(levels) != 60 {
			t.Errorf("LevelsOf(%q, 0) = %v", s, levels)
		}
		if shown := impl.ShowText(s, 1); shown != s {
			t.Errorf("ShowText(%q, 1) = %q", s, shown)
		}
	}
}

// Promise 91.
func TestP91CapitalLettersRunFromRightToLeft(t *testing.T) {
	someTexts(func(s string, base int) {
		levels := impl.LevelsOf(s, base)
		if want := wantTextLevels(s, base); !slices.Equal(levels, want) {
			t.Fatalf("LevelsOf(%q, %d) = %v, want %v", s, base, levels, want)
		}
		for i, level := range levels {
			if class := classOf(s[i]); class == upper && level != 1 || class == lower && level != 2*base {
				t.Errorf("LevelsOf(%q, %d) = %v", s, base, levels)
			}
		}
	})
}

// Promise 92.
func TestP92DigitsRunFromLeftToRight(t *testing.T) {
	behind := map[int]int{}
	someTexts(func(s string, base int) {
		levels := impl.LevelsOf(s, base)
		last := lower
		for i := range levels {
			class := classOf(s[i])
			if class == upper || class == lower {
				last = class
			}
			if class != digit {
				continue
			}
			want := 2 * base
			if last == upper {
				want = 2
			}
			behind[levels[i]]++
			if levels[i] != want {
				t.Errorf("LevelsOf(%q, %d) = %v, want %d for digit %d", s, base, levels, want, i)
			}
			if i > 0 && classOf(s[i-1]) == digit && levels[i] != levels[i-1] {
				t.Errorf("LevelsOf(%q, %d) = %v, which differ for digits %d and %d", s, base, levels, i-1, i)
			}
		}
	})
	if len(behind) != 2 || behind[0] == 0 || behind[2] == 0 {
		t.Errorf("the levels of digits are %v", behind)
	}
	for _, c := range []struct{ s, shown0, shown1 string }{
		{"AB12", "12BA", "12BA"}, {"AB 12", "BA 12", "12 BA"}, {"12AB", "12BA", "BA12"}, {"AB12CD", "DC12BA", "DC12BA"}, {"ab12", "ab12", "ab12"}, {"A 1-2", "A 1-2", "1-2 A"}, {"A b 12", "A b 12", "b 12 A"},
	} {
		equalText(t, "ShowText of "+c.s+" with the base 0", impl.ShowText(c.s, 0), c.shown0)
		equalText(t, "ShowText of "+c.s+" with the base 1", impl.ShowText(c.s, 1), c.shown1)
	}
}

// Promise 93.
func TestP93OrdersArePermutations(t *testing.T) {
	someLevels(func(levels []int) {
		order := impl.OrderOf(levels)
		if want := wantOrder(levels); !slices.Equal(order, want) {
			t.Fatalf("OrderOf(%v) = %v, want %v", levels, order, want)
		}
		places := impl.InverseOrder(order)
		if len(places) != len(levels) {
			t.Fatalf("InverseOrder(%v) = %v", order, places)
		}
		for i, place := range places {
			if place < 0 || place >= len(order) || order[place] != i {
				t.Errorf("InverseOrder(%v) = %v, which is wrong for %d", order, places, i)
			}
		}
	})
	for _, c := range []struct{ levels, want []int }{
		{nil, nil}, {[]int{0}, []int{0}}, {[]int{6}, []int{0}}, {[]int{0, 1, 2, 2, 1, 0}, []int{0, 4, 2, 3, 1, 5}}, {[]int{1, 0, 1}, []int{0, 1, 2}}, {[]int{1, 1, 0, 1, 1}, []int{1, 0, 2, 4, 3}},
		{[]int{1, 2, 2, 1}, []int{3, 1, 2, 0}}, {[]int{2, 2, 1, 1}, []int{3, 2, 0, 1}}, {[]int{2, 2, 0, 2, 2}, []int{0, 1, 2, 3, 4}}, {[]int{6, 6, 5, 5}, []int{3, 2, 0, 1}}, {[]int{0, 6, 5, 6, 0}, []int{0, 3, 2, 1, 4}}, {[]int{1, 3, 3, 1}, []int{3, 2, 1, 0}},
	} {
		equalInts(t, fmt.Sprintf("OrderOf(%v)", c.levels), impl.OrderOf(c.levels), c.want...)
	}
}

func TestP93OrdersFailForInvalidArguments(t *testing.T) {
	lists := [][]int{make([]int, 61), slices.Repeat([]int{1}, 61), make([]int, 10000)}
	for _, level := range append([]int{7, 8}, extremes...) {
		if level < 0 || level > 6 {
			lists = append(lists, []int{level}, []int{level, 0}, []int{0, level}, []int{1, level, 1}, append(make([]int, 59), level))
		}
	}
	for _, levels := range lists {
		if order := impl.OrderOf(levels); order != nil {
			t.Errorf("OrderOf of %d levels %.80v = %v", len(levels), fmt.Sprint(levels), order)
		}
	}
	if order := impl.OrderOf(make([]int, 60)); len(order) != 60 {
		t.Errorf("OrderOf of 60 levels = %v", order)
	}
}

func TestP93InverseOrderFailsForOtherLists(t *testing.T) {
	lists := [][]int{ascending(61), ascending(10000), {0, 0}, {1, 1}, {1}, {2, 1}, {1, 2}, {0, 2}, {0, 1, 1}, {0, 0, 2}, {1, 2, 3}, {-1, 0}, {0, -1, 1}, append(ascending(59), 58), append(ascending(59), 60)}
	for _, n := range extremes {
		if n != 0 {
			lists = append(lists, []int{n})
		}
		if n != 2 {
			lists = append(lists, []int{n, 0, 1}, []int{0, n, 1}, []int{0, 1, n})
		}
	}
	for _, order := range lists {
		if places := impl.InverseOrder(order); places != nil {
			t.Errorf("InverseOrder of %d numbers %.80v = %v", len(order), fmt.Sprint(order), places)
		}
	}
	for _, order := range [][]int{nil, {0}, {1, 0}, {0, 1, 2}, ascending(60), reversed(ascending(60))} {
		equalInts(t, fmt.Sprintf("InverseOrder(%v)", order), impl.InverseOrder(order), order...)
	}
	equalInts(t, "InverseOrder", impl.InverseOrder([]int{2, 0, 1}), 1, 2, 0)
	allLevels(4, -1, 4, func(list []int) {
		sorted := slices.Clone(list)
		slices.Sort(sorted)
		if is := slices.Equal(sorted, ascending(len(list))); is != (len(impl.InverseOrder(list)) == len(list)) {
			t.Errorf("InverseOrder(%v) = %v", list, impl.InverseOrder(list))
		}
	})
}

// Promise 94.
func TestP94TextInOneDirectionIsNotMixed(t *testing.T) {
	for n := range 61 {
		for level := range 7 {
			want := ascending(n)
			if level%2 == 1 {
				want = reversed(want)
			}
			equalInts(t, fmt.Sprintf("OrderOf %d levels %d", n, level), impl.OrderOf(slices.Repeat([]int{level}, n)), want...)
		}
	}
}

// Promise 95.
func TestP95ALevelMoreReverses(t *testing.T) {
	raised := 0
	someLevels(func(levels []int) {
		if slices.Contains(levels, 6) {
			return
		}
		more := slices.Clone(levels)
		for i := range more {
			more[i]++
		}
		raised++
		equalInts(t, fmt.Sprintf("OrderOf(%v)", more), impl.OrderOf(more), reversed(impl.OrderOf(levels))...)
	})
	if raised < 1000 {
		t.Errorf("only %d lists could be raised", raised)
	}
}

// Promise 96.
func TestP96ShownTextsHaveAllCharacters(t *testing.T) {
	someTexts(func(s string, base int) {
		shown, order := impl.ShowText(s, base), impl.OrderOf(impl.LevelsOf(s, base))
		if len(shown) != len(s) || len(order) != len(s) {
			t.Fatalf("ShowText(%q, %d) = %q, and the order is %v", s, base, shown, order)
		}
		for place, i := range wantOrder(wantTextLevels(s, base)) {
			if order[place] != i || shown[place] != s[i] {
				t.Fatalf("ShowText(%q, %d) = %q with the order %v, which is wrong at %d", s, base, shown, order, place)
			}
		}
	})
	for _, c := range []struct {
		s    string
		base int
		want string
	}{
		{"", 0, ""}, {"", 1, ""}, {"ab CD EF g", 0, "ab FE DC g"}, {"AB 12 c", 1, "12 c BA"}, {"ab CD", 0, "ab DC"}, {"ab CD", 1, "DC ab"}, {"AB cd", 0, "BA cd"}, {"AB cd", 1, "cd BA"},
		{" AB ", 0, " BA "}, {"AB  ", 0, "BA  "}, {"  AB", 0, "  BA"}, {"ab  ", 1, "  ab"}, {"  ab", 1, "ab  "}, {"AB  ", 1, "  BA"}, {"A(B)", 0, "B(A)"}, {"A(b)", 1, ")b(A"},
	} {
		equalText(t, fmt.Sprintf("ShowText(%q, %d)", c.s, c.base), impl.ShowText(c.s, c.base), c.want)
	}
}

// Promise 97.
func TestP97InvertingTwiceGivesTheOrder(t *testing.T) {
	check := func(order []int) {
		if twice := impl.InverseOrder(impl.InverseOrder(order)); !slices.Equal(twice, order) {
			t.Errorf("InverseOrder of InverseOrder of %v = %v", order, twice)
		}
	}
	someLevels(func(levels []int) { check(impl.OrderOf(levels)) })
	r := fixed()
	for n := range 61 {
		for range 20 {
			check(r.Perm(n))
		}
	}
}

// Promise 144.
func TestP144TextFromLeftToRightIsNotChanged(t *testing.T) {
	check := func(s string) {
		equalText(t, fmt.Sprintf("ShowText(%q, 0)", s), impl.ShowText(s, 0), s)
	}
	someTexts(func(s string, base int) {
		if s == strings.ToLower(s) {
			check(s)
		}
		check(strings.ToLower(s))
	})
}

// Promise 147.
func TestP147TextOfOneDirectionHasTheBaseLevel(t *testing.T) {
	r := fixed()
	for n := range 61 {
		for range 20 {
			s := randomText(r, "ABCDEFGHIJKLMNOPQRSTUVWXYZ", n)
			equalInts(t, fmt.Sprintf("LevelsOf(%q, 1)", s), impl.LevelsOf(s, 1), slices.Repeat([]int{1}, n)...)
			equalInts(t, fmt.Sprintf("LevelsOf(%q, 0)", s), impl.LevelsOf(s, 0), slices.Repeat([]int{1}, n)...)
			want := []byte(s)
			slices.Reverse(want)
			equalText(t, fmt.Sprintf("ShowText(%q, 1)", s), impl.ShowText(s, 1), string(want))
		}
	}
}

func TestDirectionsAreNotChangedOrShared(t *testing.T) {
	levels, order := []int{0, 1, 2, 2, 1, 0, 9}[:6], []int{2, 0, 1, 9}[:3]
	for range 2 {
		read := impl.LevelsOf("ab CD 12", 0)
		equalInts(t, "LevelsOf", read, 0, 0, 0, 1, 1, 0, 2, 2)
		shown := impl.OrderOf(levels)
		equalInts(t, "OrderOf", shown, 0, 4, 2, 3, 1, 5)
		places := impl.InverseOrder(order)
		equalInts(t, "InverseOrder", places, 1, 2, 0)
		for _, list := range [][]int{read, shown, places} {
			clear(list[:cap(list)])
		}
	}
	equalInts(t, "the levels", levels[:7], 0, 1, 2, 2, 1, 0, 9)
	equalInts(t, "the order", order[:4], 2, 0, 1, 9)
}
