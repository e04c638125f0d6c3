package tests

import (
	"slices"
	"strings"
	"testing"

	"loop.example/typesetting/impl"
)

// badPatterns are texts that are not patterns.
var badPatterns = []string{
	"", "1", "9", "0", "0a", "a0", "a0b", "11", "11a", "a11", "a11b", "a.b", "a..", "..a", "...", "1.a", "a.1", "1.1", "1.1a",
	"a1.b", "A", "aB", "a b", " a", "a ", "-", "a-b", "{", "`", "/a", ":a", "\u00e9", "a\x00", "\xff",
	strings.Repeat("a", 21), "." + strings.Repeat("a", 20), strings.Repeat("a", 20) + ".", "." + strings.Repeat("a", 19) + ".",
	"1" + strings.Repeat("a1", 21), strings.Repeat("a", 10000), strings.Repeat(".", 10000),
}

// Promise 8.
func TestP8PatternsHaveAValueAtEachPlace(t *testing.T) {
	for _, c := range []struct {
		s, letters string
		values     []int
	}{
		{"a", "a", []int{0, 0}},
		{"z", "z", []int{0, 0}},
		{"1a", "a", []int{1, 0}},
		{"a9", "a", []int{0, 9}},
		{"1a2b3", "ab", []int{1, 2, 3}},
		{".a1b2c", ".abc", []int{0, 0, 1, 2, 0}},
		{".1a", ".a", []int{0, 1, 0}},
		{"a1.", "a.", []int{0, 1, 0}},
		{".5a6.", ".a.", []int{0, 5, 6, 0}},
		{".", ".", []int{0, 0}},
		{"..", "..", []int{0, 0, 0}},
		{".3.", "..", []int{0, 3, 0}},
		// The period is the first or the last character of the text, as the document requires.
		{".1", ".", []int{0, 1}},
		{"1.", ".", []int{1, 0}},
		{strings.Repeat("a", 20), strings.Repeat("a", 20), make([]int, 21)},
		{"." + strings.Repeat("a", 18) + ".", "." + strings.Repeat("a", 18) + ".", make([]int, 21)},
		{"9" + strings.Repeat("a9", 20), strings.Repeat("a", 20), slices.Repeat([]int{9}, 21)},
	} {
		letters, values, ok := impl.ParsePattern(c.s)
		if !ok || letters != c.letters || !slices.Equal(values, c.values) {
			t.Errorf("ParsePattern(%q) = %q, %v, %v", c.s, letters, values, ok)
		}
	}
	for _, s := range badPatterns {
		if letters, values, ok := impl.ParsePattern(s); ok || letters != "" || values != nil {
			t.Errorf("ParsePattern(%q) = %q, %v, %v", s, letters, values, ok)
		}
	}
}

// isPattern is the document's definition, by the characters and what is next to them.
func isPattern(s string) bool {
	digit := func(c byte) bool { return c >= '1' && c <= '9' }
	count := 0
	for i := range len(s) {
		switch c := s[i]; {
		case c >= 'a' && c <= 'z':
			count++
		case c == '.':
			count++
			if i != 0 && i != len(s)-1 {
				return false
			}
		case !digit(c) || i > 0 && digit(s[i-1]):
			return false
		}
	}
	return count >= 1 && count <= impl.MaxWord
}

func TestP8AllTextsAreReadAsDefined(t *testing.T) {
	r := fixed()
	valid := 0
	for range 20000 {
		s := randomText(r, "abz.01259", r.Intn(7))
		if r.Intn(4) == 0 {
			s = randomPattern(r, impl.MaxWord)
		}
		letters, values, ok := impl.ParsePattern(s)
		if ok != isPattern(s) {
			t.Errorf("ParsePattern(%q) = %v", s, ok)
		}
		if !ok {
			continue
		}
		valid++
		if len(values) != len(letters)+1 || letters != strings.Map(dropDigit, s) {
			t.Errorf("ParsePattern(%q) = %q, %v", s, letters, values)
			continue
		}
		if written := writePattern(letters, values); written != s {
			t.Errorf("ParsePattern(%q) = %q, %v, which is %q", s, letters, values, written)
		}
	}
	if valid < 1000 {
		t.Errorf("only %d patterns were valid", valid)
	}
}

// dropDigit keeps all characters but digits.
func dropDigit(c rune) rune {
	if c >= '0' && c <= '9' {
		return -1
	}
	return c
}

// writePattern puts the values other than 0 between the characters.
func writePattern(letters string, values []int) string {
	s := ""
	for i, value := range values {
		if value != 0 {
			s += string(rune('0' + value))
		}
		if i < len(letters) {
			s += letters[i : i+1]
		}
	}
	return s
}

// wantValues is the document's definition: every pattern is tried at every position.
func wantValues(patterns []string, word string) []int {
	text := "." + word + "."
	values := make([]int, len(word)-1)
	for _, s := range patterns {
		letters := strings.Map(dropDigit, s)
		_, places, _ := impl.ParsePattern(s)
		for at := range len(text) {
			if !strings.HasPrefix(text[at:], letters) {
				continue
			}
			for i, value := range places {
				// The place behind the first letter is place 2 of the text.
				if k := at + i - 2; k >= 0 && k < len(values) {
					values[k] = max(values[k], value)
				}
			}
		}
	}
	return values
}

// Promise 9.
func TestP9MorePatternsHaveLargerValues(t *testing.T) {
	r := fixed()
	for range 5000 {
		word := randomWord(r, impl.MaxWord)
		patterns := randomPatterns(r, impl.MaxPatterns-1)
		values := impl.HyphenValues(patterns, word)
		equalInts(t, word+" with "+strings.Join(patterns, " "), values, wantValues(patterns, word)...)
		if len(values) != len(word)-1 {
			t.Errorf("%s has the values %v", word, values)
			continue
		}
		more := impl.HyphenValues(append(slices.Clone(patterns), randomPattern(r, 3)), word)
		for i := range values {
			if more[i] < values[i] {
				t.Errorf("%s has the values %v, but %v with one pattern more", word, values, more)
			}
		}
		slices.Reverse(patterns)
		equalInts(t, word+" in the opposite order", impl.HyphenValues(patterns, word), values...)
	}
}

func TestP9PatternsAtTheEndsOfWords(t *testing.T) {
	for _, c := range []struct {
		patterns string
		word     string
		want     []int
	}{
		{"", "abcd", []int{0, 0, 0}},
		{"", "a", nil},
		{"1a1", "a", nil},
		{"b1c 1d c2d", "abcdef", []int{0, 1, 2, 0, 0}},
		{".a1", "aaa", []int{1, 0}},
		{"1a.", "aaa", []int{0, 1}},
		{".1a1a", "aaa", []int{1, 0}},
		{"a1a1.", "aaa", []int{0, 1}},
		{"1a1", "aaa", []int{1, 1}},
		{"1aaa2", "aaa", []int{0, 0}},
		{".a3b4c.", "abc", []int{3, 4}},
		{".a3b.", "abc", []int{0, 0}},
		{"a1a", "aaaa", []int{1, 1, 1}},
		{"a1b ab2 1ab a5b a3b", "aab", []int{1, 5}},
		{"a2b a2b a1b", "ab", []int{2}},
		{"ab1 a1bc", "abcabd", []int{1, 1, 0, 0, 1}},
		{". .. .1 1.", "ab", []int{0}},
		{"abc9d", "abab", []int{0, 0, 0}},
		{"1z", "zz", []int{1}},
		{"9" + strings.Repeat("a9", 20), strings.Repeat("a", 20), slices.Repeat([]int{9}, 19)},
		{"." + strings.Repeat("a1", 19), strings.Repeat("a", 20), slices.Repeat([]int{1}, 19)},
		{strings.Repeat("1a", 19) + ".", strings.Repeat("a", 20), slices.Repeat([]int{1}, 19)},
	} {
		equalInts(t, c.word+" with "+c.patterns, impl.HyphenValues(strings.Fields(c.patterns), c.word), c.want...)
	}
}

// checkFailures checks that a function of patterns and a word returns nil for invalid ones.
func checkFailures(t *testing.T, of func([]string, string) []int) {
	t.Helper()
	good := []string{"1a", "a1b", "1c"}
	if of(slices.Repeat([]string{"1a1"}, 20), "aaaa") == nil {
		t.Error("20 patterns fail")
	}
	if got := of(slices.Repeat([]string{"1a1"}, 21), "aaaa"); got != nil {
		t.Errorf("21 patterns give %v", got)
	}
	for _, s := range badPatterns {
		for i := range good {
			if got := of(slices.Insert(slices.Clone(good), i, s), "abcabc"); got != nil {
				t.Errorf("the pattern %q gives %v", s, got)
			}
		}
	}
	for _, word := range badWords {
		if got := of(good, word); got != nil {
			t.Errorf("the word %q gives %v", word, got)
		}
	}
}

func TestP9HyphenValuesFailsForInvalidArguments(t *testing.T) {
	checkFailures(t, impl.HyphenValues)
}

// Promise 10.
func TestP10WordsAreDividedAtOddValues(t *testing.T) {
	for _, c := range []struct {
		patterns string
		word     string
		want     []int
	}{
		{"1a1", "a", nil},
		{"1a1", "aaa", nil},
		{"1a1", "aaaa", []int{2}},
		{"1a1", "aaaaaa", []int{2, 3, 4}},
		{"2a2", "aaaaaa", nil},
		{"a1b b2c c3d d4e e5f f6g g7h h8i i9j", "abcdefghijkl", []int{3, 5, 7, 9}},
		{"1a a2a", "aaaa", nil},
		{"2a a3a", "aaaa", []int{2}},
	} {
		equalInts(t, c.word+" with "+c.patterns, impl.HyphenPoints(strings.Fields(c.patterns), c.word), c.want...)
	}
	r := fixed()
	for range 5000 {
		word := randomWord(r, impl.MaxWord)
		patterns := randomPatterns(r, impl.MaxPatterns)
		var want []int
		for i, value := range wantValues(patterns, word) {
			if value%2 == 1 && i+1 >= 2 && i+1 <= len(word)-2 {
				want = append(want, i+1)
			}
		}
		equalInts(t, word+" with "+strings.Join(patterns, " "), impl.HyphenPoints(patterns, word), want...)
	}
}

func TestP10HyphenPointsFailsForInvalidArguments(t *testing.T) {
	checkFailures(t, impl.HyphenPoints)
}

// Promise 135.
func TestP135WithoutPatternsNoWordIsDivided(t *testing.T) {
	r := fixed()
	for range 500 {
		word := randomText(r, "abcdefghijklmnopqrstuvwxyz", 1+r.Intn(impl.MaxWord))
		if got := impl.HyphenPoints(nil, word); len(got) != 0 {
			t.Errorf("%s is divided at %v", word, got)
		}
		if got := impl.HyphenPoints([]string{}, word); len(got) != 0 {
			t.Errorf("%s is divided at %v", word, got)
		}
		equalInts(t, word, impl.HyphenValues(nil, word), make([]int, len(word)-1)...)
	}
	for _, word := range badWords {
		if got := impl.HyphenPoints(nil, word); got != nil {
			t.Errorf("%q is divided at %v", word, got)
		}
	}
}

// Promise 11.
func TestP11PartsMakeUpTheWord(t *testing.T) {
	const word = "abcdefghijklmnopqrst"
	for mask := range 1 << 5 {
		for n := 1; n <= 6; n++ {
			var points []int
			for k := 1; k < n; k++ {
				if mask>>(k-1)&1 == 1 {
					points = append(points, k)
				}
			}
			checkParts(t, word[:n], points)
		}
	}
	checkParts(t, word, []int{1, 2, 18, 19})
	if got := impl.SplitWord("abcdef", []int{2, 5}); !slices.Equal(got, []string{"ab", "cde", "f"}) {
		t.Errorf("SplitWord = %q", got)
	}
}

// checkParts checks that a word is divided at points.
func checkParts(t *testing.T, word string, points []int) {
	t.Helper()
	parts := impl.SplitWord(word, points)
	if len(parts) != len(points)+1 || strings.Join(parts, "") != word {
		t.Errorf("SplitWord(%s, %v) = %q", word, points, parts)
		return
	}
	length := 0
	for i, point := range points {
		length += len(parts[i])
		if length != point {
			t.Errorf("SplitWord(%s, %v) = %q", word, points, parts)
		}
	}
}

func TestP11SplitWordFailsForInvalidArguments(t *testing.T) {
	for _, points := range [][]int{
		{0}, {6}, {-1}, {7}, {2, 2}, {3, 2}, {0, 2}, {2, 6}, {1, 2, 3, 4, 5, 6}, {2, 4, 3}, {5, 1},
		{extremes[0]}, {extremes[len(extremes)-1]}, {2, extremes[0]}, {2, extremes[len(extremes)-1]},
	} {
		if got := impl.SplitWord("abcdef", points); got != nil {
			t.Errorf("SplitWord at %v = %q", points, got)
		}
	}
	for _, n := range extremes {
		if got := impl.SplitWord("a", []int{n}); got != nil {
			t.Errorf("SplitWord of one letter at %d = %q", n, got)
		}
	}
	for _, word := range badWords {
		for _, points := range [][]int{nil, {1}} {
			if got := impl.SplitWord(word, points); got != nil {
				t.Errorf("SplitWord(%q, %v) = %q", word, points, got)
			}
		}
	}
}

// Promise 12.
func TestP12WordsAreDividedAtTheirHyphenPoints(t *testing.T) {
	r := fixed()
	divided := 0
	for range 5000 {
		word := randomWord(r, impl.MaxWord)
		patterns := randomPatterns(r, impl.MaxPatterns)
		points := impl.HyphenPoints(patterns, word)
		parts := impl.SplitWord(word, points)
		checkParts(t, word, points)
		if len(parts) < 2 {
			continue
		}
		divided++
		if len(parts[0]) < impl.LeftMin || len(parts[len(parts)-1]) < impl.RightMin {
			t.Errorf("%s is divided into %q", word, parts)
		}
	}
	if divided < 1000 {
		t.Errorf("only %d words were divided", divided)
	}
	every := []string{"1a1", "1b1", "1c1"}
	for n := 1; n <= impl.MaxWord; n++ {
		word := strings.Repeat("abc", 7)[:n]
		if got, want := len(impl.SplitWord(word, impl.HyphenPoints(every, word))), max(n-2, 1); got != want {
			t.Errorf("%s has %d parts, want %d", word, got, want)
		}
	}
}

func TestPatternsAndPointsAreNotChangedOrShared(t *testing.T) {
	patterns := []string{"a1a", ".a3a", "a1a"}
	_, values, _ := impl.ParsePattern(patterns[0])
	clear(values[:cap(values)])
	first := impl.HyphenValues(patterns, "aaaaaa")
	points := impl.HyphenPoints(patterns, "aaaaaa")
	equalInts(t, "values", first, 3, 1, 1, 1, 1)
	equalInts(t, "points", points, 2, 3, 4)
	parts := impl.SplitWord("aaaaaa", points)
	clear(first[:cap(first)])
	clear(parts[:cap(parts)])
	equalInts(t, "points", points, 2, 3, 4)
	equalInts(t, "values again", impl.HyphenValues(patterns, "aaaaaa"), 3, 1, 1, 1, 1)
	if !slices.Equal(patterns, []string{"a1a", ".a3a", "a1a"}) {
		t.Errorf("the patterns became %q", patterns)
	}
}
