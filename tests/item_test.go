package tests

import (
	"slices"
	"strings"
	"testing"

	"loop.example/typesetting/impl"
)

func TestP13ValidItemsHaveTheFieldsOfTheirKind(t *testing.T) {
	if impl.BoxItem != 1 || impl.GlueItem != 2 || impl.PenaltyItem != 3 {
		t.Error("the kinds are not those of the document")
	}
	for _, x := range []impl.Item{
		box(0), box(1), box(1000),
		glue(0, 0, 0), glue(0, 1000, 0), glue(1000, 0, 0), glue(1000, 1000, 1000), glue(5, 3, 5), glue(5, 3, 4),
		penalty(0, 0), penalty(1000, 1000), penalty(1000, -1000), penalty(1, 999), penalty(1, -999),
		hyphen(0, 0), hyphen(1000, 1000), hyphen(1000, -1000),
	} {
		if !impl.ValidItems([]impl.Item{x, stop()}) {
			t.Errorf("%v is not valid", x)
		}
	}
	for _, list := range [][]impl.Item{
		{stop()}, {penalty(1000, -1000)}, {hyphen(1, -1000)}, {stop(), stop()},
		append(slices.Repeat([]impl.Item{box(1000)}, 59), stop()), slices.Repeat([]impl.Item{stop()}, 60),
	} {
		if !impl.ValidItems(list) {
			t.Errorf("%v is not valid", list)
		}
	}
	for what, list := range invalidParagraphs() {
		if impl.ValidItems(list) {
			t.Errorf("%s: valid", what)
		}
	}
}

// Promise 13.
func TestP13ParagraphsEndAtABreak(t *testing.T) {
	list := []impl.Item{
		glue(1, 1, 1), box(1), glue(1, 1, 1), glue(1, 1, 1), penalty(0, 0), glue(1, 1, 1), penalty(0, 999), penalty(0, 1000),
		box(1), box(1), penalty(0, 1000), glue(1, 1, 1), box(1), hyphen(0, -999), stop(), glue(1, 1, 1), box(1), glue(0, 0, 0), stop(),
	}
	equalInts(t, "BreaksOf", impl.BreaksOf(list), 2, 4, 6, 13, 14, 17, 18)
	equalInts(t, "BreaksOf a forced break", impl.BreaksOf([]impl.Item{stop()}), 0)
	equalInts(t, "BreaksOf glue", impl.BreaksOf([]impl.Item{glue(1, 1, 1), stop()}), 1)
	equalInts(t, "BreaksOf 60 items", impl.BreaksOf(slices.Repeat([]impl.Item{stop()}, 60)), ascending(60)...)
	for _, list := range someParagraphs(500) {
		breaks := impl.BreaksOf(list)
		equalInts(t, "BreaksOf", breaks, wantBreaks(list)...)
		if !slices.IsSorted(breaks) || breaks[len(breaks)-1] != len(list)-1 {
			t.Errorf("BreaksOf %v = %v", list, breaks)
		}
		for _, i := range breaks {
			if list[i].Kind == impl.BoxItem {
				t.Errorf("BreaksOf %v has the box %d", list, i)
			}
		}
	}
}

// ascending returns the first n numbers.
func ascending(n int) []int {
	list := make([]int, n)
	for i := range list {
		list[i] = i
	}
	return list
}

func TestP13BreaksOfFailsForInvalidItems(t *testing.T) {
	for what, list := range invalidParagraphs() {
		if got := impl.BreaksOf(list); got != nil {
			t.Errorf("%s: BreaksOf = %v", what, got)
		}
	}
}

// Promise 14.
func TestP14ForcedBreaksAreBreaks(t *testing.T) {
	list := []impl.Item{stop(), box(1), penalty(0, -999), hyphen(3, -1000), glue(1, 1, 1), penalty(7, -1000), penalty(0, 1000), stop()}
	equalInts(t, "ForcedBreaks", impl.ForcedBreaks(list), 0, 3, 5, 7)
	for _, list := range someParagraphs(500) {
		breaks, forced := impl.BreaksOf(list), impl.ForcedBreaks(list)
		var want []int
		for i, x := range list {
			if isForced(x) {
				want = append(want, i)
			}
		}
		equalInts(t, "ForcedBreaks", forced, want...)
		if forced[len(forced)-1] != len(list)-1 {
			t.Errorf("ForcedBreaks of %v = %v", list, forced)
		}
		for _, i := range forced {
			if !slices.Contains(breaks, i) {
				t.Errorf("%d of ForcedBreaks is not in BreaksOf %v", i, list)
			}
		}
	}
}

func TestP14ForcedBreaksFailsForInvalidItems(t *testing.T) {
	for what, list := range invalidParagraphs() {
		if got := impl.ForcedBreaks(list); got != nil {
			t.Errorf("%s: ForcedBreaks = %v", what, got)
		}
	}
}

// Promise 15.
func TestP15LinesHaveTheBoxesBetweenTheirBreaks(t *testing.T) {
	for _, list := range someParagraphs(400) {
		eachPair(list, func(from, to int) {
			g, ok := impl.LineGlue(list, from, to)
			if want, is := wantGlue(list, from, to); g != want || ok != is {
				t.Errorf("LineGlue of %v from %d to %d = %v, %v, want %v, %v", list, from, to, g, ok, want, is)
			}
			sum := 0
			for _, i := range impl.BoxesOf(list, from, to) {
				sum += list[i].Size.Width
			}
			if g.Width < sum {
				t.Errorf("LineGlue of %v from %d to %d = %v, but the boxes have the width %d", list, from, to, g, sum)
			}
		})
	}
}

func TestP15ItemsVanishBehindABreak(t *testing.T) {
	list := []impl.Item{
		glue(1, 2, 1), penalty(4, 0), box(8), glue(16, 32, 16), glue(64, 1, 3), hyphen(128, 50), penalty(256, 1000),
		glue(512, 5, 7), box(9), penalty(11, 3), glue(13, 17, 10), stop(), glue(3, 3, 3), hyphen(5, -1000), box(2), hyphen(6, -1000),
	}
	for _, c := range []struct {
		from, to int
		want     impl.Glue
	}{
		{-1, 1, impl.Glue{Width: 4}},
		{-1, 3, impl.Glue{Width: 8}},
		{1, 3, impl.Glue{Width: 8}},
		{1, 5, impl.Glue{Width: 216, Stretch: 33, Shrink: 19}},
		{3, 5, impl.Glue{Width: 128}},
		{3, 9, impl.Glue{Width: 20}},
		{5, 9, impl.Glue{Width: 20}},
		{-1, 9, impl.Glue{Width: 620, Stretch: 38, Shrink: 26}},
		{5, 11, impl.Glue{Width: 22, Stretch: 17, Shrink: 10}},
		{9, 11, impl.Glue{}},
		{11, 13, impl.Glue{Width: 5}},
		{13, 15, impl.Glue{Width: 8}},
	} {
		if g, ok := impl.LineGlue(list, c.from, c.to); !ok || g != c.want {
			t.Errorf("LineGlue from %d to %d = %v, %v, want %v", c.from, c.to, g, ok, c.want)
		}
	}
	for _, c := range [][2]int{
		{-1, -1}, {-2, 1}, {-1, 0}, {-1, 2}, {0, 1}, {2, 3}, {3, 3}, {5, 3}, {5, 6}, {6, 9}, {5, 10}, {10, 11},
		{9, 13}, {-1, 13}, {-1, 15}, {11, 15}, {13, 16}, {15, 16}, {15, 15},
	} {
		if g, ok := impl.LineGlue(list, c[0], c[1]); ok || g != (impl.Glue{}) {
			t.Errorf("LineGlue from %d to %d = %v, %v", c[0], c[1], g, ok)
		}
	}
}

func TestP15LinesMayBeLongerThanMaxLength(t *testing.T) {
	list := append(slices.Repeat([]impl.Item{box(1000), glue(1000, 1000, 1000)}, 29), box(1000), penalty(1000, -1000))
	if g, ok := impl.LineGlue(list, -1, 59); !ok || g != (impl.Glue{Width: 60000, Stretch: 29000, Shrink: 29000}) {
		t.Errorf("LineGlue of the longest line = %v, %v", g, ok)
	}
}

func TestP15LineGlueFailsForInvalidItems(t *testing.T) {
	for what, list := range invalidParagraphs() {
		if g, ok := impl.LineGlue(list, -1, len(list)-1); ok || g != (impl.Glue{}) {
			t.Errorf("%s: LineGlue = %v, %v", what, g, ok)
		}
	}
}

// Promise 16.
func TestP16LongerLinesAreWider(t *testing.T) {
	longer := 0
	for _, list := range someParagraphs(400) {
		breaks := impl.BreaksOf(list)
		for _, from := range append([]int{-1}, breaks...) {
			for i, to := range breaks {
				g, ok := impl.LineGlue(list, from, to)
				if !ok || list[to].Kind != impl.GlueItem {
					continue
				}
				for _, later := range breaks[i+1:] {
					if h, ok := impl.LineGlue(list, from, later); ok {
						longer++
						if h.Width < g.Width {
							t.Errorf("LineGlue of %v from %d to %d = %v, but to %d %v", list, from, to, g, later, h)
						}
					}
				}
			}
		}
	}
	if longer < 1000 {
		t.Errorf("only %d longer lines", longer)
	}
}

// wantParagraph returns the items of words.
func wantParagraph(f impl.Font, patterns []string, words []string) []impl.Item {
	var list []impl.Item
	for i, word := range words {
		if i > 0 {
			list = append(list, impl.Item{Kind: 2, Size: f.Space})
		}
		for k, letters := range impl.SplitWord(word, impl.HyphenPoints(patterns, word)) {
			if k > 0 {
				list = append(list, hyphen(f.Hyphen, 50))
			}
			list = append(list, box(impl.WordWidth(f, letters)))
		}
	}
	return append(list, penalty(0, 1000), glue(0, 1000, 0), stop())
}

// Promise 17.
func TestP17ParagraphsHaveAllWords(t *testing.T) {
	r := fixed()
	built := 0
	for range 3000 {
		f, patterns := randomFont(r), randomPatterns(r, impl.MaxPatterns)
		var words []string
		for range 1 + r.Intn(12) {
			words = append(words, randomWord(r, 9))
		}
		got, ok := impl.BuildParagraph(f, patterns, words)
		want := wantParagraph(f, patterns, words)
		if !impl.ValidItems(want) {
			want = nil
		}
		if ok != (want != nil) || !slices.Equal(got, want) {
			t.Errorf("BuildParagraph of %q with %q = %v, %v, want %v", words, patterns, got, ok, want)
		}
		if ok {
			built++
		}
	}
	if built < 1000 {
		t.Errorf("only %d paragraphs were built", built)
	}
}

func TestP17PartsAreAsWideAsTheirLetters(t *testing.T) {
	f := ligatureFont()
	// The hyphen divides a ligature and a kern, which then do not count.
	got, ok := impl.BuildParagraph(f, []string{"f1f", "a1b"}, []string{"offi", "a", "aaabb"})
	want := []impl.Item{
		box(24 + 15), hyphen(3, 50), box(15 + 18), glue(4, 2, 1), box(10), glue(4, 2, 1),
		box(30), hyphen(3, 50), box(22), penalty(0, 1000), glue(0, 1000, 0), stop(),
	}
	if !ok || !slices.Equal(got, want) {
		t.Errorf("BuildParagraph = %v, %v, want %v", got, ok, want)
	}
	got, ok = impl.BuildParagraph(f, nil, []string{"offi"})
	if want := []impl.Item{box(68), penalty(0, 1000), glue(0, 1000, 0), stop()}; !ok || !slices.Equal(got, want) {
		t.Errorf("BuildParagraph of one word = %v, %v, want %v", got, ok, want)
	}
}

func TestP17ParagraphsAtTheirLimits(t *testing.T) {
	f := plainFont()
	for i := range f.Widths {
		f.Widths[i] = 100
	}
	change := func(by func(f *impl.Font)) impl.Font {
		g := cloneFont(f)
		by(&g)
		return g
	}
	ten, two := strings.Repeat("a", 10), []string{"a", "b"}
	for i, c := range []struct {
		f        impl.Font
		patterns []string
		words    []string
		items    int
	}{
		{f, nil, slices.Repeat([]string{"a"}, 29), 60},
		{f, nil, slices.Repeat([]string{"a"}, 30), 0},
		{f, []string{"1a1"}, append(slices.Repeat([]string{"a"}, 27), "aaaa"), 60},
		{f, []string{"1a1"}, append(slices.Repeat([]string{"a"}, 28), "aaaa"), 0},
		{f, nil, slices.Repeat([]string{"a"}, 100000), 0},
		{f, nil, []string{ten}, 4},
		{f, nil, []string{ten + "a"}, 0},
		{f, []string{"aa1b"}, []string{ten + "bb"}, 6},
		{f, []string{"aa1b"}, []string{ten + "a" + "bb"}, 0},
		{f, slices.Repeat([]string{"a1a"}, 20), two, 6},
		{f, slices.Repeat([]string{"a1a"}, 21), two, 0},
		{change(func(f *impl.Font) { f.Space = impl.Glue{Width: 1000, Stretch: 1000, Shrink: 1000} }), nil, two, 6},
		{change(func(f *impl.Font) { f.Space = impl.Glue{} }), nil, two, 6},
		{change(func(f *impl.Font) { f.Space = impl.Glue{Width: 1001} }), nil, two, 0},
		{change(func(f *impl.Font) { f.Space = impl.Glue{Stretch: 1001} }), nil, two, 0},
		{change(func(f *impl.Font) { f.Space = impl.Glue{Width: 6, Shrink: 7} }), nil, two, 0},
		// A single word has no space that could be invalid.
		{change(func(f *impl.Font) { f.Space = impl.Glue{Width: 6, Shrink: 7} }), nil, two[:1], 4},
		{change(func(f *impl.Font) { f.Space.Width = 10000 }), nil, two[:1], 4},
		{change(func(f *impl.Font) { f.Space.Width = -1 }), nil, two[:1], 0},
	} {
		got, ok := impl.BuildParagraph(c.f, c.patterns, c.words)
		if len(got) != c.items || ok != (c.items > 0) {
			t.Errorf("paragraph %d has %d items, want %d", i, len(got), c.items)
		}
	}
}

func TestP17BuildParagraphFailsForInvalidArguments(t *testing.T) {
	check := func(what string, f impl.Font, patterns []string, words []string) {
		t.Helper()
		if got, ok := impl.BuildParagraph(f, patterns, words); ok || got != nil {
			t.Errorf("%s: BuildParagraph = %v, %v", what, got, ok)
		}
	}
	good := []string{"a1b", "1c"}
	for what, f := range invalidFonts() {
		check(what, f, good, []string{"abc", "d"})
	}
	check("the zero font", impl.Font{}, nil, []string{"a"})
	check("no words", plainFont(), good, nil)
	check("no words", plainFont(), good, []string{})
	for _, s := range badPatterns {
		for i := range 3 {
			check("the pattern "+s, plainFont(), slices.Insert(slices.Clone(good), i, s), []string{"a"})
		}
	}
	for _, s := range badWords {
		for i := range 3 {
			check("the word "+s, plainFont(), good, slices.Insert([]string{"abc", "d"}, i, s))
		}
		check("the word "+s, plainFont(), nil, []string{s})
	}
}

// Promise 136.
func TestP136ParagraphsAreAsWideAsTheirWords(t *testing.T) {
	r := fixed()
	for range 1000 {
		f := randomFont(r)
		f.Space.Width = r.Intn(1001)
		f.Space.Shrink = r.Intn(f.Space.Width + 1)
		var words []string
		sum := 0
		for i := range 1 + r.Intn(29) {
			words = append(words, randomWord(r, 5))
			sum += impl.WordWidth(f, words[i])
			if i > 0 {
				sum += f.Space.Width
			}
		}
		list, ok := impl.BuildParagraph(f, nil, words)
		g, is := impl.LineGlue(list, -1, len(list)-1)
		if !ok || !is || g.Width != sum {
			t.Errorf("the paragraph of %q has the line %v, %v, want the width %d", words, g, is, sum)
		}
	}
}
