package tests

import (
	"math"
	"math/rand"
	"slices"
	"strings"
	"testing"

	"loop.example/typesetting/impl"
)

// extremes are numbers at which sums, products and comparisons go wrong.
var extremes = []int{
	math.MinInt, math.MinInt + 1, math.MinInt / 2, -20001, -20000, -10001, -10000, -9999, -101, -100, -1,
	0, 1, 2, 25, 26, 35, 36, 99, 100, 101, 5000, 9999, 10000, 10001, 20000, 20001,
	math.MaxInt / 2, math.MaxInt - 1, math.MaxInt,
}

// lengths are valid widths of glue, ends of their ranges among them.
var lengths = []int{-10000, -9999, -5001, -100, -1, 0, 1, 7, 100, 4999, 5000, 9999, 10000}

// positive are the lengths that are not negative.
var positive = lengths[5:]

// letters are the letters of words that repeat themselves often.
const letters = "abc"

// badWords are texts that are not words.
var badWords = []string{
	"", " ", "A", "aB", "a b", "a-b", "a.", ".a", "1", "a1", "{", "`", "\x00", "a\n", "\u00e9", "\xff",
	strings.Repeat("a", 21), strings.Repeat("a", 10000),
}

// fixed returns a source of numbers that are the same in every run.
func fixed() *rand.Rand {
	return rand.New(rand.NewSource(1))
}

// randomWord returns a word of 1 to n letters.
func randomWord(r *rand.Rand, n int) string {
	return randomText(r, letters, 1+r.Intn(n))
}

// randomText returns a text of n characters of an alphabet.
func randomText(r *rand.Rand, alphabet string, n int) string {
	var b strings.Builder
	for range n {
		b.WriteByte(alphabet[r.Intn(len(alphabet))])
	}
	return b.String()
}

// plainFont returns a valid font without kerns and ligatures, in which each glyph has a width of its own.
func plainFont() impl.Font {
	f := impl.Font{Space: impl.Glue{Width: 4, Stretch: 2, Shrink: 1}, Hyphen: 3}
	for i := range impl.Glyphs {
		f.Widths = append(f.Widths, 10+i)
	}
	return f
}

// randomPairs returns pairs in their order, mostly of a few letters and of ligatures.
func randomPairs(r *rand.Rand, low, high int) []impl.GlyphPair {
	var list []impl.GlyphPair
	glyphs := []int{0, 1, 2, 26, 27, 28, 35}
	for _, a := range glyphs {
		for _, b := range glyphs {
			if len(list) < impl.MaxPairs && r.Intn(3) == 0 {
				list = append(list, impl.GlyphPair{A: a, B: b, Value: low + r.Intn(high-low+1)})
			}
		}
	}
	return list
}

// randomFont returns a valid font with kerns and with ligatures of ligatures.
func randomFont(r *rand.Rand) impl.Font {
	f := plainFont()
	for i := range f.Widths {
		f.Widths[i] = r.Intn(impl.MaxGlyph + 1)
	}
	f.Kerns = randomPairs(r, -impl.MaxGlyph, impl.MaxGlyph)
	f.Ligatures = randomPairs(r, impl.Letters, impl.Glyphs-1)
	return f
}

// randomPattern returns a valid pattern of 1 to n letters, at times with periods.
func randomPattern(r *rand.Rand, n int) string {
	digit := func() string {
		if r.Intn(2) == 0 {
			return ""
		}
		return string(rune('1' + r.Intn(9)))
	}
	s := digit()
	if r.Intn(5) == 0 {
		s = "." + digit()
	}
	for range 1 + r.Intn(n) {
		s += randomText(r, letters, 1) + digit()
	}
	if r.Intn(5) == 0 {
		s += "."
	}
	return s
}

// randomPatterns returns up to n valid patterns.
func randomPatterns(r *rand.Rand, n int) []string {
	var list []string
	for range r.Intn(n + 1) {
		list = append(list, randomPattern(r, 3))
	}
	return list
}

// equalInts reports an error if a list of numbers is not as expected.
func equalInts(t *testing.T, what string, got []int, want ...int) {
	t.Helper()
	if !slices.Equal(got, want) {
		t.Errorf("%s = %v, want %v", what, got, want)
	}
}

// cloneFont returns a font that shares no memory with another.
func cloneFont(f impl.Font) impl.Font {
	f.Widths = slices.Clone(f.Widths)
	f.Kerns = slices.Clone(f.Kerns)
	f.Ligatures = slices.Clone(f.Ligatures)
	return f
}
