package tests

import (
	"fmt"
	"slices"
	"strings"
	"testing"

	"loop.example/typesetting/impl"
)

// wordsOf returns words with the given numbers of letters.
func wordsOf(lengths ...int) []string {
	var words []string
	for i, n := range lengths {
		words = append(words, strings.Repeat(string(rune('a'+i%26)), n))
	}
	return words
}

// manyWords returns up to n words with many different lengths, or with few, so that the same lines in another order are equally good.
func manyWords(r randomSource, n int) []string {
	var lengths []int
	few := [][]int{{9, 9, 9, 20}, {4, 4, 9}, {5, 6, 20}, {13}}[r.Intn(4)]
	most := []int{0, 2, 4, 10, 20}[r.Intn(5)]
	for range r.Intn(n + 1) {
		if most == 0 {
			lengths = append(lengths, few[r.Intn(len(few))])
		} else {
			lengths = append(lengths, 1+r.Intn(most))
		}
	}
	return wordsOf(lengths...)
}

// someWords goes over valid words of up to most of them, and valid widths.
func someWords(n, most int, visit func(words []string, width int)) {
	for width := 20; width <= 60; width++ {
		visit(nil, width)
		visit([]string{}, width)
		for length := 1; length <= 20; length++ {
			visit(wordsOf(length), width)
			visit(wordsOf(length, 20), width)
			visit(slices.Repeat(wordsOf(length), most), width)
			visit(slices.Repeat(wordsOf(length, 1), most/2), width)
		}
	}
	r := fixed()
	for range n {
		words := manyWords(r, most)
		visit(words, 20)
		visit(words, 20+r.Intn(41))
	}
}

// invalidWords returns lists that are not words of a text, by what is wrong.
func invalidWords() map[string][]string {
	list := map[string][]string{
		"41 words":    slices.Repeat(wordsOf(1), 41),
		"10000 words": slices.Repeat(wordsOf(20), 10000),
	}
	for _, word := range badWords {
		what := fmt.Sprintf("%.30q", word)
		list[what] = []string{word}
		list["first "+what] = []string{word, "a", "b"}
		list["between "+what] = []string{"a", word, "b"}
		list["last "+what] = []string{"a", "b", word}
	}
	return list
}

// invalidWidths returns widths into which words are not wrapped.
func invalidWidths() []int {
	list := []int{19, 61}
	for _, n := range extremes {
		if n < 20 || n > 60 {
			list = append(list, n)
		}
	}
	return list
}

// eachLine goes over the lines with the given ends, and tells which is the last one.
func eachLine(words []string, ends []int, visit func(line []string, last bool)) {
	from := 0
	for _, to := range ends {
		visit(words[from:to], to == len(words))
		from = to
	}
}

// wantWrapCost returns the sum of the squares of rests, and whether all lines fit.
func wantWrapCost(words []string, width int, ends []int) (int, bool) {
	sum, fits := 0, true
	eachLine(words, ends, func(line []string, last bool) {
		rest := width - len(strings.Join(line, " "))
		if rest < 0 {
			fits = false
		}
		if !last {
			sum += rest * rest
		}
	})
	if !fits {
		return 0, false
	}
	return sum, true
}

// wantWrapped returns the best lines by trying all of them.
func wantWrapped(words []string, width int) ([]int, int) {
	if len(words) == 0 {
		return nil, 0
	}
	var best []int
	least := 0
	allEnds(len(words), func(ends []int) {
		sum, ok := wantWrapCost(words, width, ends)
		// Lines with few words have small ends.
		if ok && (best == nil || sum < least || sum == least && slices.Compare(ends, best) < 0) {
			best, least = ends, sum
		}
	})
	return best, least
}

// wantLeastWrap returns the least sum for any number of words, from the costs for their beginnings.
func wantLeastWrap(words []string, width int) int {
	least := make([]int, len(words)+1)
	for to := range least[1:] {
		to++
		least[to] = -1
		for from := range to {
			rest := width - len(strings.Join(words[from:to], " "))
			if rest < 0 {
				continue
			}
			if to == len(words) {
				rest = 0
			}
			if sum := least[from] + rest*rest; least[to] < 0 || sum < least[to] {
				least[to] = sum
			}
		}
	}
	return least[len(words)]
}

// gapsOf returns the numbers of spaces between the words of a line, or nil if it does not have just these words.
func gapsOf(line string, words []string) []int {
	gaps := []int{}
	for i, word := range words {
		n := len(line) - len(strings.TrimLeft(line, " "))
		if i > 0 {
			gaps = append(gaps, n)
		} else if n > 0 {
			return nil
		}
		var ok bool
		line, ok = strings.CutPrefix(line[n:], word)
		if !ok {
			return nil
		}
	}
	if line != "" {
		return nil
	}
	return gaps
}

// someFilled goes over words that fit into one line, from none on, and widths.
func someFilled(visit func(words []string, width int)) {
	someWords(3000, 30, func(words []string, width int) {
		n := len(words)
		for len(strings.Join(words[:n], " ")) > width {
			n--
		}
		visit(words[:n], width)
		visit(words[:n/2], width)
	})
}

// Promise 103.
func TestP103WrappedLinesAreAccepted(t *testing.T) {
	someWords(1000, 40, func(words []string, width int) {
		ends := impl.WrapWords(words, width)
		cost, ok := impl.WrapCost(words, width, ends)
		if want, is := wantWrapCost(words, width, ends); !ok || !is || cost != want {
			t.Fatalf("WrapWords(%q, %d) = %v, and WrapCost is %d, %v, want %d, %v", words, width, ends, cost, ok, want, is)
		}
		if len(words) == 0 && len(ends) > 0 || len(words) > 0 && (len(ends) == 0 || ends[len(ends)-1] != len(words)) {
			t.Fatalf("WrapWords(%q, %d) = %v", words, width, ends)
		}
	})
}

func TestP103EveryWidthIsAccepted(t *testing.T) {
	words := wordsOf(20, 1, 20, 19, 1, 3, 5, 8, 13, 1, 1, 20)
	for _, width := range ascending(100) {
		ends := impl.WrapWords(words, width)
		cost, ok := impl.WrapCost(words, width, ends)
		if is := width >= 20 && width <= 60; is != ok || is != (ends != nil) || !ok && cost != 0 {
			t.Errorf("WrapWords for the width %d = %v, and WrapCost is %d, %v", width, ends, cost, ok)
		}
	}
	full := slices.Repeat(wordsOf(20), 40)
	equalInts(t, "WrapWords of 40 words of 20 letters", impl.WrapWords(full, 20), countTo(40)...)
	equalInts(t, "WrapWords for twice the width", impl.WrapWords(full, 41), everySecond(40)...)
	equalInts(t, "WrapWords for one less", impl.WrapWords(full, 40), countTo(40)...)
	equalInts(t, "WrapWords of a single word", impl.WrapWords(full[:1], 20), 1)
	equalInts(t, "WrapWords without words", impl.WrapWords(nil, 20))
	equalInts(t, "WrapWords without words", impl.WrapWords([]string{}, 60))
}

// everySecond returns the even numbers from 2 to n.
func everySecond(n int) []int {
	var list []int
	for i := 2; i <= n; i += 2 {
		list = append(list, i)
	}
	return list
}

func TestP103WrapWordsFailsForInvalidArguments(t *testing.T) {
	for what, words := range invalidWords() {
		for _, width := range []int{19, 20, 41, 60, 61} {
			if ends := impl.WrapWords(words, width); ends != nil {
				t.Errorf("%s: WrapWords for the width %d = %v", what, width, ends)
			}
		}
	}
	for _, width := range invalidWidths() {
		for _, words := range [][]string{nil, {"a"}, {"a", "b"}, wordsOf(20, 20)} {
			if ends := impl.WrapWords(words, width); ends != nil {
				t.Errorf("WrapWords(%q, %d) = %v", words, width, ends)
			}
		}
	}
}

// Promise 104.
func TestP104NoLinesAreBetter(t *testing.T) {
	several := 0
	check := func(words []string, width int) {
		ends := impl.WrapWords(words, width)
		want, least := wantWrapped(words, width)
		if !slices.Equal(ends, want) {
			t.Fatalf("WrapWords(%q, %d) = %v, want %v", words, width, ends, want)
		}
		if cost, _ := impl.WrapCost(words, width, ends); cost != least {
			t.Fatalf("WrapCost of WrapWords(%q, %d) = %d, want %d", words, width, cost, least)
		}
		if len(words) == 0 {
			return
		}
		equal := 0
		allEnds(len(words), func(others []int) {
			if cost, ok := impl.WrapCost(words, width, others); ok && cost < least {
				t.Errorf("WrapWords(%q, %d) = %v costs %d, but %v costs %d", words, width, ends, least, others, cost)
			} else if ok && cost == least {
				equal++
			}
		})
		if equal > 1 {
			several++
		}
	}
	someWords(1500, 9, check)
	// Of words of two lengths, lines in another order are often equally good.
	for _, lengths := range [][]int{{9, 20}, {4, 9}, {6, 13}} {
		allLevels(7, 0, 1, func(list []int) {
			var words []int
			for _, i := range list {
				words = append(words, lengths[i])
			}
			check(wordsOf(append(words, 20)...), 20)
		})
	}
	if several < 100 {
		t.Errorf("only %d texts have several best lines", several)
	}
}

func TestP104NoLinesOfLongTextsAreBetter(t *testing.T) {
	r := fixed()
	someWords(1000, 40, func(words []string, width int) {
		cost, ok := impl.WrapCost(words, width, impl.WrapWords(words, width))
		if least := wantLeastWrap(words, width); !ok || cost != least {
			t.Fatalf("WrapWords(%q, %d) = %v costs %d, want %d", words, width, impl.WrapWords(words, width), cost, least)
		}
		if len(words) > 0 {
			if other, ok := impl.WrapCost(words, width, randomEnds(r, len(words))); ok && other < cost {
				t.Errorf("WrapWords(%q, %d) costs %d, but other lines cost %d", words, width, cost, other)
			}
		}
	})
}

func TestP104TheFirstLineIsShortAmongEquals(t *testing.T) {
	for _, c := range []struct {
		words []string
		width int
		want  []int
		least int
	}{
		{wordsOf(10, 9, 2, 10, 1), 20, []int{2, 5}, 0},
		// Also of the same cost, but with a longer first line: 2 and 3; 3, 4.
		{wordsOf(9, 9, 9, 20), 20, []int{1, 3, 4}, 122},
		{wordsOf(9, 9, 9, 9, 9, 20), 20, []int{1, 3, 5, 6}, 123},
		{wordsOf(9, 9, 9, 9, 20), 20, []int{2, 4, 5}, 2},
		// A last line that is full costs as little as one that is not.
		{wordsOf(20, 20), 20, []int{1, 2}, 0},
		{wordsOf(20, 1), 20, []int{1, 2}, 0},
		{wordsOf(1, 20), 20, []int{1, 2}, 361},
		{wordsOf(1, 18), 20, []int{2}, 0},
		{wordsOf(1, 19), 20, []int{1, 2}, 361},
		// As many words as possible in each line would cost 1 + 225.
		{wordsOf(9, 9, 5, 16, 3), 20, []int{1, 3, 5}, 121 + 25},
		// The last line is the only one that costs nothing.
		{wordsOf(10, 5, 5, 20, 1), 20, []int{1, 3, 4, 5}, 100 + 81},
	} {
		ends := impl.WrapWords(c.words, c.width)
		cost, ok := impl.WrapCost(c.words, c.width, ends)
		if !slices.Equal(ends, c.want) || cost != c.least || !ok {
			t.Errorf("WrapWords(%q, %d) = %v costs %d, want %v, which costs %d", c.words, c.width, ends, cost, c.want, c.least)
		}
	}
}

// Promise 105.
func TestP105ASingleLineCostsNothing(t *testing.T) {
	someFilled(func(words []string, width int) {
		ends := impl.WrapWords(words, width)
		if cost, ok := impl.WrapCost(words, width, ends); !ok || cost != 0 {
			t.Fatalf("WrapCost of WrapWords(%q, %d) = %d, %v", words, width, cost, ok)
		}
		// A line that is not the last one would have a rest, for the next word and a space.
		if len(words) > 0 {
			equalInts(t, fmt.Sprintf("WrapWords(%q, %d)", words, width), ends, len(words))
		}
	})
	for width := 20; width <= 60; width++ {
		// The rest of the only line, which is the last one, does not count.
		if cost, ok := impl.WrapCost([]string{"a"}, width, []int{1}); !ok || cost != 0 {
			t.Errorf("WrapCost of a word for %d = %d, %v", width, cost, ok)
		}
		if cost, ok := impl.WrapCost(nil, width, nil); !ok || cost != 0 {
			t.Errorf("WrapCost of no words for %d = %d, %v", width, cost, ok)
		}
	}
}

// Promise 106.
func TestP106FilledLinesHaveTheWidth(t *testing.T) {
	someFilled(func(words []string, width int) {
		line := impl.FillLine(words, width)
		if len(words) < 2 {
			equalText(t, fmt.Sprintf("FillLine(%q, %d)", words, width), line, strings.Join(words, ""))
			return
		}
		last := words[len(words)-1]
		if len(line) != width || gapsOf(line, words) == nil || !strings.HasPrefix(line, words[0]) || !strings.HasSuffix(line, last) {
			t.Fatalf("FillLine(%q, %d) = %q", words, width, line)
		}
	})
}

func TestP106ASingleWordIsAlone(t *testing.T) {
	for width := 20; width <= 60; width++ {
		for length := 1; length <= 20; length++ {
			word := wordsOf(length)
			equalText(t, fmt.Sprintf("FillLine(%q, %d)", word, width), impl.FillLine(word, width), word[0])
		}
		equalText(t, "FillLine of no words", impl.FillLine(nil, width), "")
		equalText(t, "FillLine of no words", impl.FillLine([]string{}, width), "")
	}
}

func TestP106FillLineFailsForInvalidArguments(t *testing.T) {
	for what, words := range invalidWords() {
		for _, width := range []int{19, 20, 41, 60, 61} {
			equalText(t, what+": FillLine", impl.FillLine(words, width), "")
		}
	}
	for _, width := range invalidWidths() {
		for _, words := range [][]string{nil, {"a"}, {"a", "b"}, wordsOf(9, 9)} {
			equalText(t, fmt.Sprintf("FillLine(%q, %d)", words, width), impl.FillLine(words, width), "")
		}
	}
	for width := 20; width <= 60; width++ {
		// Two words and a space between them that fit just so, or not.
		left := width / 2
		if left <= 20 && width-left-1 <= 20 {
			fits := wordsOf(left, width-left-1)
			equalText(t, "FillLine of words that fit", impl.FillLine(fits, width), fits[0]+" "+fits[1])
		}
		if left <= 20 && width-left <= 20 {
			equalText(t, "FillLine of words that do not fit", impl.FillLine(wordsOf(left, width-left), width), "")
		}
	}
	equalText(t, "FillLine of 30 words", impl.FillLine(slices.Repeat(wordsOf(1), 30), 60), strings.Repeat("a ", 28)+"a  a")
	equalText(t, "FillLine of 31 words", impl.FillLine(slices.Repeat(wordsOf(1), 31), 60), "")
	equalText(t, "FillLine of 40 words", impl.FillLine(slices.Repeat(wordsOf(20), 40), 60), "")
}

// Promise 107.
func TestP107SpacesAreEven(t *testing.T) {
	uneven := 0
	someFilled(func(words []string, width int) {
		if len(words) < 2 {
			return
		}
		line := impl.FillLine(words, width)
		gaps := gapsOf(line, words)
		if gaps == nil || slices.Min(gaps) < 1 || slices.Max(gaps) > slices.Min(gaps)+1 {
			t.Fatalf("FillLine(%q, %d) = %q", words, width, line)
		}
		if slices.Max(gaps) > slices.Min(gaps) {
			uneven++
		}
		// Up to each gap, there are as many spaces as its part of the rest.
		rest, sum := width-len(strings.Join(words, " ")), 0
		for i, n := range gaps {
			sum += n - 1
			if sum != rest*(i+1)/len(gaps) {
				t.Fatalf("FillLine(%q, %d) = %q, which is wrong at gap %d", words, width, line, i+1)
			}
		}
	})
	if uneven < 1000 {
		t.Errorf("only %d lines have different gaps", uneven)
	}
	for _, c := range []struct {
		words []string
		width int
		want  string
	}{
		{[]string{"ab", "c", "def"}, 20, "ab       c       def"},
		{[]string{"ab", "c", "def"}, 21, "ab       c        def"},
		{[]string{"a", "b"}, 20, "a                  b"},
		{[]string{"aaaa", "bbbb", "cccc", "dddd"}, 20, "aaaa bbbb cccc  dddd"},
		{[]string{"aaaa", "bbbb", "cccc", "dddd"}, 21, "aaaa bbbb  cccc  dddd"},
		{[]string{"aaaa", "bbbb", "cccc", "dddd"}, 22, "aaaa  bbbb  cccc  dddd"},
		{[]string{"aaa", "bbb", "ccc", "ddd", "ee"}, 20, "aaa bbb  ccc ddd  ee"},
	} {
		equalText(t, fmt.Sprintf("FillLine(%q, %d)", c.words, c.width), impl.FillLine(c.words, c.width), c.want)
	}
}

// Promise 108.
func TestP108FilledTextsHaveAllWords(t *testing.T) {
	someWords(1500, 40, func(words []string, width int) {
		lines, ends := impl.FillText(words, width), impl.WrapWords(words, width)
		if len(lines) != len(ends) {
			t.Fatalf("FillText(%q, %d) = %q, but there are %d lines", words, width, lines, len(ends))
		}
		if letters := strings.ReplaceAll(strings.Join(lines, ""), " ", ""); letters != strings.Join(words, "") {
			t.Fatalf("FillText(%q, %d) = %q", words, width, lines)
		}
		n := 0
		eachLine(words, ends, func(line []string, last bool) {
			want := impl.FillLine(line, width)
			if last {
				want = strings.Join(line, " ")
			}
			full := len(line) == 1 || last || len(lines[n]) == width
			if lines[n] != want || !full || !slices.Equal(strings.Fields(lines[n]), line) {
				t.Fatalf("FillText(%q, %d) = %q, want line %d %q", words, width, lines, n, want)
			}
			n++
		})
	})
}

func TestP108FillTextFailsForInvalidArguments(t *testing.T) {
	for what, words := range invalidWords() {
		for _, width := range []int{19, 20, 41, 60, 61} {
			if lines := impl.FillText(words, width); lines != nil {
				t.Errorf("%s: FillText for the width %d = %q", what, width, lines)
			}
		}
	}
	for _, width := range invalidWidths() {
		for _, words := range [][]string{nil, {"a"}, {"a", "b"}, wordsOf(9, 9, 9)} {
			if lines := impl.FillText(words, width); lines != nil {
				t.Errorf("FillText(%q, %d) = %q", words, width, lines)
			}
		}
	}
	if lines := impl.FillText(nil, 20); len(lines) != 0 {
		t.Errorf("FillText of no words = %q", lines)
	}
}

// Promise 109.
func TestP109TheLastLineIsNotFilled(t *testing.T) {
	narrow := 0
	someWords(1500, 40, func(words []string, width int) {
		if len(words) == 0 {
			return
		}
		lines := impl.FillText(words, width)
		last := lines[len(lines)-1]
		fields := strings.Fields(last)
		if last != strings.Join(fields, " ") || len(fields) == 0 || !slices.Equal(fields, words[len(words)-len(fields):]) {
			t.Fatalf("FillText(%q, %d) = %q", words, width, lines)
		}
		if len(fields) > 1 && len(last) < width {
			narrow++
		}
	})
	if narrow < 1000 {
		t.Errorf("only %d last lines could have been filled", narrow)
	}
	for _, c := range []struct {
		words []string
		width int
		want  []string
	}{
		{[]string{"a"}, 20, []string{"a"}},
		{[]string{"a", "b"}, 20, []string{"a b"}},
		{[]string{"aaaaaaaaaa", "bbbbbbbbb", "cc", "dddddddddd", "e"}, 20, []string{"aaaaaaaaaa bbbbbbbbb", "cc dddddddddd e"}},
		{[]string{"aaaaaaaaaaaaaaa", "bbbbbbbbbbbbbbb", "c"}, 20, []string{"aaaaaaaaaaaaaaa", "bbbbbbbbbbbbbbb c"}},
		{[]string{"aaaaaaa", "bbbbbbb", "ccccccccccccccccccc", "d"}, 20, []string{"aaaaaaa      bbbbbbb", "ccccccccccccccccccc", "d"}},
	} {
		if lines := impl.FillText(c.words, c.width); !slices.Equal(lines, c.want) {
			t.Errorf("FillText(%q, %d) = %q, want %q", c.words, c.width, lines, c.want)
		}
	}
}

// Promise 110.
func TestP110LinesBehindALineAreWrappedAlike(t *testing.T) {
	several := 0
	someWords(1500, 40, func(words []string, width int) {
		ends := impl.WrapWords(words, width)
		for n, first := range ends {
			var want []int
			for _, end := range ends[n+1:] {
				want = append(want, end-first)
			}
			equalInts(t, fmt.Sprintf("WrapWords(%q, %d)", words[first:], width), impl.WrapWords(words[first:], width), want...)
		}
		if len(ends) > 2 {
			several++
		}
	})
	if several < 1000 {
		t.Errorf("only %d texts have more than two lines", several)
	}
}

// Promise 111.
func TestP111CostsOfLinesAddUp(t *testing.T) {
	accepted, tooLong := 0, 0
	someWords(400, 8, func(words []string, width int) {
		if len(words) == 0 {
			return
		}
		allEnds(len(words), func(ends []int) {
			cost, ok := impl.WrapCost(words, width, ends)
			if want, is := wantWrapCost(words, width, ends); cost != want || ok != is {
				t.Fatalf("WrapCost(%q, %d, %v) = %d, %v, want %d, %v", words, width, ends, cost, ok, want, is)
			}
			if ok {
				accepted++
			} else {
				tooLong++
			}
		})
	})
	if accepted < 10000 || tooLong < 10000 {
		t.Errorf("%d lines are accepted, and %d are not", accepted, tooLong)
	}
	words := wordsOf(10, 9, 2, 10, 1)
	for _, c := range []struct {
		ends []int
		want int
	}{
		{[]int{1, 3, 5}, 164}, {[]int{2, 5}, 0}, {[]int{1, 2, 3, 4, 5}, 100 + 121 + 324 + 100}, {[]int{2, 4, 5}, 49}, {[]int{2, 3, 5}, 324}, {[]int{2, 3, 4, 5}, 424},
		{[]int{3, 5}, -1}, {[]int{1, 4, 5}, -1}, {[]int{1, 5}, -1}, {[]int{5}, -1}, // too long
	} {
		cost, ok := impl.WrapCost(words, 20, c.ends)
		if ok != (c.want >= 0) || cost != max(c.want, 0) {
			t.Errorf("WrapCost for %v = %d, %v, want %d", c.ends, cost, ok, c.want)
		}
	}
}

func TestP111WrapCostFailsForInvalidArguments(t *testing.T) {
	check := func(what string, words []string, width int, ends []int) {
		if cost, ok := impl.WrapCost(words, width, ends); ok || cost != 0 {
			t.Errorf("%s: WrapCost of %d words for %d and %.80v = %d, %v", what, len(words), width, fmt.Sprint(ends), cost, ok)
		}
	}
	for what, words := range invalidWords() {
		check(what, words, 60, []int{len(words)})
		check(what, words, 60, countTo(len(words)))
		check(what, words, 60, nil)
	}
	for _, width := range invalidWidths() {
		check("the width", nil, width, nil)
		check("the width", []string{"a"}, width, []int{1})
		check("the width", []string{"a", "b"}, width, []int{1, 2})
	}
	for n := 3; n <= 5; n++ {
		for _, ends := range badEnds(n) {
			check("the ends", slices.Repeat(wordsOf(1), n), 60, ends)
		}
	}
	for _, n := range extremes {
		check("an end without words", nil, 20, []int{n})
		if n != 1 {
			check("the end of a word", []string{"a"}, 20, []int{n})
		}
		check("an end behind the last", []string{"a"}, 20, []int{1, n})
	}
	check("no ends", []string{"a"}, 20, nil)
	check("a last line that is too long", wordsOf(20, 10, 10), 20, []int{1, 3})
	check("a first line that is too long", wordsOf(10, 10, 20), 20, []int{2, 3})
}

func TestWrappedWordsAreNotChangedOrShared(t *testing.T) {
	words := []string{"aaaaaaaaaa", "bbbbbbbbb", "cc", "dddddddddd", "e", "F"}[:5]
	kept := slices.Clone(words[:6])
	ends := []int{1, 3, 5, 9}[:3]
	for range 2 {
		wrapped := impl.WrapWords(words, 20)
		equalInts(t, "WrapWords", wrapped, 2, 5)
		clear(wrapped[:cap(wrapped)])
		if cost, ok := impl.WrapCost(words, 20, ends); !ok || cost != 164 {
			t.Errorf("WrapCost = %d, %v", cost, ok)
		}
		equalText(t, "FillLine", impl.FillLine(words[2:], 20), "cc   dddddddddd    e")
		lines := impl.FillText(words, 20)
		if !slices.Equal(lines, []string{"aaaaaaaaaa bbbbbbbbb", "cc dddddddddd e"}) {
			t.Errorf("FillText = %q", lines)
		}
		clear(lines[:cap(lines)])
	}
	if !slices.Equal(words[:6], kept) {
		t.Errorf("the words became %q", words[:6])
	}
	equalInts(t, "the ends", ends[:4], 1, 3, 5, 9)
}
