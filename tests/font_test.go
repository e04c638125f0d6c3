package tests

import (
	"reflect"
	"slices"
	"strings"
	"testing"

	"loop.example/typesetting/impl"
)

// ligatureFont returns a font with ligatures of ligatures: ff, ffi, fi, and one that joins twice more.
func ligatureFont() impl.Font {
	f := plainFont()
	f.Kerns = []impl.GlyphPair{{A: 0, B: 1, Value: -3}, {A: 1, B: 0, Value: 2}, {A: 14, B: 27, Value: 7}}
	f.Ligatures = []impl.GlyphPair{
		{A: 0, B: 29, Value: 30}, // a and bcd
		{A: 1, B: 2, Value: 28},  // b and c
		{A: 5, B: 5, Value: 26},  // f and f
		{A: 26, B: 8, Value: 27}, // ff and i
		{A: 28, B: 3, Value: 29}, // bc and d
	}
	return f
}

// invalidFonts returns fonts each of which breaks one rule, by what they break.
func invalidFonts() map[string]impl.Font {
	list := map[string]impl.Font{}
	change := func(what string, by func(f *impl.Font)) {
		f := ligatureFont()
		by(&f)
		list[what] = f
	}
	change("no widths", func(f *impl.Font) { f.Widths = nil })
	change("a width too few", func(f *impl.Font) { f.Widths = f.Widths[1:] })
	change("a width too many", func(f *impl.Font) { f.Widths = append(f.Widths, 1) })
	change("a negative width", func(f *impl.Font) { f.Widths[0] = -1 })
	change("a large width", func(f *impl.Font) { f.Widths[35] = 101 })
	change("a negative hyphen", func(f *impl.Font) { f.Hyphen = -1 })
	change("a large hyphen", func(f *impl.Font) { f.Hyphen = 101 })
	change("a negative space", func(f *impl.Font) { f.Space.Width = -1 })
	change("a large space", func(f *impl.Font) { f.Space.Width = 10001 })
	change("space with negative stretch", func(f *impl.Font) { f.Space.Stretch = -1 })
	change("space with large shrink", func(f *impl.Font) { f.Space.Shrink = 10001 })
	change("a small kern", func(f *impl.Font) { f.Kerns[0].Value = -101 })
	change("a large kern", func(f *impl.Font) { f.Kerns[0].Value = 101 })
	change("a ligature that is a letter", func(f *impl.Font) { f.Ligatures[0].Value = 25 })
	change("a ligature that does not exist", func(f *impl.Font) { f.Ligatures[0].Value = 36 })
	change("21 kerns", func(f *impl.Font) { f.Kerns = manyPairs(21, 0) })
	change("21 ligatures", func(f *impl.Font) { f.Ligatures = manyPairs(21, 26) })
	for _, glyph := range []int{-1, 36, extremes[0], extremes[len(extremes)-1]} {
		change("a kern of no glyph", func(f *impl.Font) { f.Kerns = []impl.GlyphPair{{A: glyph, B: 1}} })
		change("a kern with no glyph", func(f *impl.Font) { f.Kerns = []impl.GlyphPair{{A: 1, B: glyph}} })
		change("a ligature of no glyph", func(f *impl.Font) { f.Ligatures = []impl.GlyphPair{{A: glyph, B: 1, Value: 26}} })
		change("a ligature with no glyph", func(f *impl.Font) { f.Ligatures = []impl.GlyphPair{{A: 1, B: glyph, Value: 26}} })
	}
	for what, pairs := range map[string][]impl.GlyphPair{
		"twice":      {{A: 1, B: 2, Value: 26}, {A: 1, B: 2, Value: 27}},
		"wrong by A": {{A: 2, B: 1, Value: 26}, {A: 1, B: 2, Value: 26}},
		"wrong by B": {{A: 1, B: 2, Value: 26}, {A: 1, B: 1, Value: 26}},
	} {
		change("kerns "+what, func(f *impl.Font) { f.Kerns = pairs })
		change("ligatures "+what, func(f *impl.Font) { f.Ligatures = pairs })
	}
	return list
}

// manyPairs returns n pairs in their order.
func manyPairs(n, value int) []impl.GlyphPair {
	var list []impl.GlyphPair
	for i := range n {
		list = append(list, impl.GlyphPair{A: i / 3, B: 10 + i%3, Value: value})
	}
	return list
}

func TestValidFontAtItsLimits(t *testing.T) {
	low := impl.Font{Widths: make([]int, impl.Glyphs)}
	high := impl.Font{Hyphen: 100, Space: impl.Glue{Width: 10000, Stretch: 10000, Shrink: 10000}, Kerns: manyPairs(20, 100), Ligatures: manyPairs(20, 35)}
	for range impl.Glyphs {
		high.Widths = append(high.Widths, 100)
	}
	ends := plainFont()
	ends.Kerns = []impl.GlyphPair{{A: 0, B: 0, Value: -100}, {A: 0, B: 35, Value: 100}, {A: 1, B: 0}, {A: 35, B: 0}, {A: 35, B: 35}}
	ends.Ligatures = []impl.GlyphPair{{A: 0, B: 0, Value: 26}, {A: 0, B: 35, Value: 35}, {A: 1, B: 0, Value: 26}, {A: 35, B: 35, Value: 30}}
	for i, f := range []impl.Font{low, high, ends, plainFont(), ligatureFont()} {
		if !impl.ValidFont(f) {
			t.Errorf("font %d is not valid", i)
		}
	}
	for what, f := range invalidFonts() {
		if impl.ValidFont(f) {
			t.Errorf("a font with %s is valid", what)
		}
	}
	if impl.ValidFont(impl.Font{}) {
		t.Error("the zero font is valid")
	}
}

// wantGlyphs is the document's rule, without a search in the order of the ligatures.
func wantGlyphs(f impl.Font, word string) []int {
	var glyphs []int
	for _, c := range word {
		glyphs = append(glyphs, int(c-'a'))
		for joined := true; joined && len(glyphs) > 1; {
			joined = false
			for _, p := range f.Ligatures {
				n := len(glyphs)
				if !joined && p.A == glyphs[n-2] && p.B == glyphs[n-1] {
					glyphs = append(glyphs[:n-2], p.Value)
					joined = true
				}
			}
		}
	}
	return glyphs
}

// Promise 4.
func TestP4LigaturesShortenWords(t *testing.T) {
	f := ligatureFont()
	equalInts(t, "offi", impl.GlyphsOf(f, "offi"), 14, 27)
	equalInts(t, "fi", impl.GlyphsOf(f, "fi"), 5, 8)
	equalInts(t, "fff", impl.GlyphsOf(f, "fff"), 26, 5)
	equalInts(t, "ffff", impl.GlyphsOf(f, "ffff"), 26, 26)
	equalInts(t, "fffi", impl.GlyphsOf(f, "fffi"), 26, 5, 8)
	equalInts(t, "z", impl.GlyphsOf(f, "z"), 25)
	equalInts(t, "20 letters", impl.GlyphsOf(f, strings.Repeat("ff", 10)), slices.Repeat([]int{26}, 10)...)
	r := fixed()
	for range 3000 {
		f, word := randomFont(r), randomWord(r, impl.MaxWord)
		equalInts(t, word, impl.GlyphsOf(f, word), wantGlyphs(f, word)...)
		if n := len(impl.GlyphsOf(f, word)); n < 1 || n > len(word) {
			t.Errorf("%s has %d glyphs", word, n)
		}
		f.Ligatures = nil
		glyphs := impl.GlyphsOf(f, word)
		if len(glyphs) != len(word) {
			t.Errorf("without ligatures, %s has the glyphs %v", word, glyphs)
			continue
		}
		for i := range glyphs {
			if glyphs[i] != int(word[i]-'a') {
				t.Errorf("without ligatures, %s has the glyphs %v", word, glyphs)
			}
		}
	}
}

func TestP4GlyphsOfFailsForInvalidArguments(t *testing.T) {
	for _, word := range badWords {
		if got := impl.GlyphsOf(ligatureFont(), word); got != nil {
			t.Errorf("GlyphsOf %q = %v", word, got)
		}
	}
	for what, f := range invalidFonts() {
		if got := impl.GlyphsOf(f, "abc"); got != nil {
			t.Errorf("GlyphsOf for a font with %s = %v", what, got)
		}
	}
}

// Promise 5.
func TestP5NoLigatureIsLeft(t *testing.T) {
	f := ligatureFont()
	// The last letter forms a ligature that joins the first letter.
	equalInts(t, "abcd", impl.GlyphsOf(f, "abcd"), 30)
	equalInts(t, "abcdabc", impl.GlyphsOf(f, "abcdabc"), 30, 0, 28)
	loop := plainFont()
	loop.Ligatures = []impl.GlyphPair{{A: 0, B: 0, Value: 26}, {A: 26, B: 0, Value: 26}, {A: 26, B: 26, Value: 26}}
	equalInts(t, "aaaaa", impl.GlyphsOf(loop, strings.Repeat("a", 20)), 26)
	r := fixed()
	for range 3000 {
		f, word := randomFont(r), randomWord(r, impl.MaxWord)
		glyphs := impl.GlyphsOf(f, word)
		for i := 1; i < len(glyphs); i++ {
			for _, p := range f.Ligatures {
				if p.A == glyphs[i-1] && p.B == glyphs[i] {
					t.Errorf("%s has the glyphs %v, with the ligature %v", word, glyphs, p)
				}
			}
		}
	}
}

// wantWidth is the document's sum, without a search in the order of the kerns.
func wantWidth(f impl.Font, list []int) int {
	sum := 0
	for i, glyph := range list {
		sum += f.Widths[glyph]
		for _, p := range f.Kerns {
			if i > 0 && p.A == list[i-1] && p.B == glyph {
				sum += p.Value
			}
		}
	}
	return sum
}

// Promise 6.
func TestP6WidthsAddUpWithoutKerns(t *testing.T) {
	r := fixed()
	for range 3000 {
		f := randomFont(r)
		list := make([]int, r.Intn(impl.MaxWord+1))
		sum := 0
		for i := range list {
			list[i] = r.Intn(impl.Glyphs)
			sum += f.Widths[list[i]]
		}
		if got, want := impl.GlyphsWidth(f, list), wantWidth(f, list); got != want {
			t.Errorf("GlyphsWidth(%v) = %d, want %d", list, got, want)
		}
		f.Kerns = nil
		if got := impl.GlyphsWidth(f, list); got != sum {
			t.Errorf("without kerns, GlyphsWidth(%v) = %d, want %d", list, got, sum)
		}
	}
}

func TestP6KernsOfConsecutiveGlyphsCount(t *testing.T) {
	f := ligatureFont()
	for _, c := range []struct {
		list []int
		want int
	}{
		{nil, 0}, {[]int{35}, 45}, {[]int{0, 1}, 18}, {[]int{1, 0}, 23}, {[]int{0, 1, 0}, 30}, {[]int{0, 2, 1}, 33},
		{slices.Repeat([]int{0}, 20), 200},
	} {
		if got := impl.GlyphsWidth(f, c.list); got != c.want {
			t.Errorf("GlyphsWidth(%v) = %d, want %d", c.list, got, c.want)
		}
	}
	f.Widths = make([]int, impl.Glyphs)
	f.Kerns = []impl.GlyphPair{{A: 0, B: 0, Value: -100}}
	if got := impl.GlyphsWidth(f, slices.Repeat([]int{0}, 20)); got != -1900 {
		t.Errorf("with kerns alone, GlyphsWidth = %d", got)
	}
}

func TestP6GlyphsWidthIsZeroForInvalidArguments(t *testing.T) {
	f := ligatureFont()
	for _, glyph := range extremes {
		if glyph >= 0 && glyph < impl.Glyphs {
			continue
		}
		for _, list := range [][]int{{glyph}, {1, glyph}, {glyph, 1}, {1, glyph, 1}} {
			if got := impl.GlyphsWidth(f, list); got != 0 {
				t.Errorf("GlyphsWidth(%v) = %d", list, got)
			}
		}
	}
	if got := impl.GlyphsWidth(f, slices.Repeat([]int{0}, 21)); got != 0 {
		t.Errorf("GlyphsWidth of 21 glyphs = %d", got)
	}
	for what, f := range invalidFonts() {
		if got := impl.GlyphsWidth(f, []int{0, 1}); got != 0 {
			t.Errorf("GlyphsWidth for a font with %s = %d", what, got)
		}
	}
}

// Promise 7.
func TestP7WordsAreAsWideAsTheirGlyphs(t *testing.T) {
	r := fixed()
	for range 3000 {
		f, word := randomFont(r), randomWord(r, impl.MaxWord)
		if got, want := impl.WordWidth(f, word), max(impl.GlyphsWidth(f, impl.GlyphsOf(f, word)), 0); got != want {
			t.Errorf("WordWidth(%s) = %d, want %d", word, got, want)
		}
		if got, want := impl.WordWidth(f, word), max(wantWidth(f, wantGlyphs(f, word)), 0); got != want {
			t.Errorf("WordWidth(%s) = %d, want %d", word, got, want)
		}
	}
	if got := impl.WordWidth(ligatureFont(), "offi"); got != 24+37+7 {
		t.Errorf("WordWidth(offi) = %d", got)
	}
	f := plainFont()
	f.Widths = make([]int, impl.Glyphs)
	f.Kerns = []impl.GlyphPair{{A: 0, B: 0, Value: -1}}
	for _, word := range []string{"a", "aa", "aaaaaaaaaaaaaaaaaaaa"} {
		if got := impl.WordWidth(f, word); got != 0 {
			t.Errorf("WordWidth(%s) of glyphs that are not positive = %d", word, got)
		}
	}
}

func TestP7WordWidthFailsForInvalidArguments(t *testing.T) {
	for _, word := range badWords {
		if got := impl.WordWidth(ligatureFont(), word); got != -1 {
			t.Errorf("WordWidth(%q) = %d", word, got)
		}
	}
	for what, f := range invalidFonts() {
		if got := impl.WordWidth(f, "abc"); got != -1 {
			t.Errorf("WordWidth for a font with %s = %d", what, got)
		}
	}
}

func TestFontsAreNotChangedOrShared(t *testing.T) {
	r := fixed()
	for range 300 {
		f, word := randomFont(r), randomWord(r, impl.MaxWord)
		before := cloneFont(f)
		list := impl.GlyphsOf(f, word)
		kept := slices.Clone(list)
		impl.GlyphsWidth(f, list)
		impl.WordWidth(f, word)
		if !slices.Equal(list, kept) {
			t.Errorf("GlyphsWidth changed the glyphs of %s", word)
		}
		clear(list[:cap(list)])
		if !reflect.DeepEqual(f, before) {
			t.Errorf("the font was changed with the glyphs of %s", word)
		}
		equalInts(t, "GlyphsOf again", impl.GlyphsOf(f, word), kept...)
	}
}
