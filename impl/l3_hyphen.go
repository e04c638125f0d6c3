package impl

import (
	"slices"
	"strings"
)

// Limits of hyphenation.
const (
	MaxPatterns = 20
	LeftMin     = 2
	RightMin    = 2
)

// ParsePattern returns the letters and values of a pattern.
func ParsePattern(s string) (string, []int, bool) {
	var letters []byte
	values := []int{0}
	for i := range len(s) {
		c := s[i]
		switch {
		case isLetter(c) || c == '.' && (i == 0 || i == len(s)-1):
			letters = append(letters, c)
			values = append(values, 0)
		case '1' <= c && c <= '9' && values[len(letters)] == 0:
			values[len(letters)] = int(c - '0')
		default:
			return "", nil, false
		}
		if len(letters) > MaxWord {
			return "", nil, false
		}
	}
	if len(letters) == 0 {
		return "", nil, false
	}
	return string(letters), values, true
}

// HyphenValues returns the values between the letters of a word.
func HyphenValues(patterns []string, word string) []int {
	trie, ok := trieOf(patterns)
	if !ok || !validWord(word) {
		return nil
	}
	return trie.valuesOf(word)
}

// HyphenPoints returns the places at which a word may be divided.
func HyphenPoints(patterns []string, word string) []int {
	trie, ok := trieOf(patterns)
	if !ok || !validWord(word) {
		return nil
	}
	return trie.pointsOf(word)
}

// SplitWord returns the parts of a word.
func SplitWord(word string, points []int) []string {
	if !validWord(word) {
		return nil
	}
	var parts []string
	from := 0
	for _, to := range points {
		if !within(to, from+1, len(word)-1) {
			return nil
		}
		parts = append(parts, strings.Clone(word[from:to]))
		from = to
	}
	return append(parts, strings.Clone(word[from:]))
}

// patternTrie keeps patterns by their characters, so that all patterns that
// occur at a position are found in one walk. Node 0 is the root.
type patternTrie struct {
	nodes []trieNode
}

// trieNode has the node behind each character, or 0, and the largest values
// of the patterns that end here, if there are any.
type trieNode struct {
	next   [Letters + 1]int
	values []int
}

// trieOf returns the trie of patterns, and whether they are valid and not too many.
func trieOf(patterns []string) (patternTrie, bool) {
	trie := patternTrie{nodes: []trieNode{{}}}
	if len(patterns) > MaxPatterns {
		return trie, false
	}
	for _, s := range patterns {
		letters, values, ok := ParsePattern(s)
		if !ok {
			return trie, false
		}
		trie.insert(letters, values)
	}
	return trie, true
}

// insert adds the characters and values of a pattern.
func (t *patternTrie) insert(letters string, values []int) {
	at := 0
	for i := range len(letters) {
		slot := slotOf(letters[i])
		if t.nodes[at].next[slot] == 0 {
			t.nodes[at].next[slot] = len(t.nodes)
			t.nodes = append(t.nodes, trieNode{})
		}
		at = t.nodes[at].next[slot]
	}
	// Patterns with the same characters share a node.
	if t.nodes[at].values == nil {
		t.nodes[at].values = make([]int, len(values))
	}
	raise(t.nodes[at].values, values)
}

// apply raises the places of a text to the values of all patterns at its beginning.
func (t *patternTrie) apply(text string, places []int) {
	at := 0
	for i := range len(text) {
		at = t.nodes[at].next[slotOf(text[i])]
		if at == 0 {
			return
		}
		raise(places, t.nodes[at].values)
	}
}

// valuesOf returns the values between the letters of a valid word.
func (t *patternTrie) valuesOf(word string) []int {
	text := "." + word + "."
	places := make([]int, len(text)+1)
	for start := range len(text) {
		t.apply(text[start:], places[start:])
	}
	// Place i is before character i of the text, and its first letter is character 1.
	return slices.Clone(places[2 : len(word)+1])
}

// pointsOf returns the places at which a valid word may be divided.
func (t *patternTrie) pointsOf(word string) []int {
	var points []int
	for i, value := range t.valuesOf(word) {
		before := i + 1
		if value%2 == 1 && before >= LeftMin && len(word)-before >= RightMin {
			points = append(points, before)
		}
	}
	return points
}

// slotOf numbers the characters of patterns.
func slotOf(c byte) int {
	if c == '.' {
		return Letters
	}
	return int(c - 'a')
}

// raise raises the first places to at least the given values.
func raise(places []int, values []int) {
	for i, value := range values {
		places[i] = max(places[i], value)
	}
}
