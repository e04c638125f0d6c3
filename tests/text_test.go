package tests

import (
	"fmt"
	"regexp"
	"slices"
	"strconv"
	"strings"
	"testing"

	"loop.example/typesetting/impl"
)

// itemForm is the text form of an item, with any numbers.
var itemForm = regexp.MustCompile(`\A(?:box N|glue N plus N minus N|penalty N width N( flagged)?)\z`)

// numberForm is a number in decimal.
var numberForm = regexp.MustCompile(`\A(?:0|-?[1-9][0-9]*)\z`)

// formLetters are characters that change the text form of an item.
const formLetters = " 0159-+;bdegx."

// wantText writes an item.
func wantText(x impl.Item) string {
	switch x.Kind {
	case 1:
		return fmt.Sprintf("box %d", x.Size.Width)
	case 2:
		return fmt.Sprintf("glue %d plus %d minus %d", x.Size.Width, x.Size.Stretch, x.Size.Shrink)
	}
	s := fmt.Sprintf("penalty %d width %d", x.Penalty, x.Size.Width)
	if x.Flagged {
		s += " flagged"
	}
	return s
}

// wantTexts writes a paragraph.
func wantTexts(list []impl.Item) string {
	s := ""
	for i, x := range list {
		if i > 0 {
			s += "; "
		}
		s += wantText(x)
	}
	return s
}

// wantItem reads an item: first its form, in which all numbers are N, then the numbers.
func wantItem(s string) (impl.Item, bool) {
	var numbers []int
	words := strings.Split(s, " ")
	for i, word := range words {
		if !numberForm.MatchString(word) {
			continue
		}
		n, err := strconv.Atoi(word)
		if err != nil {
			return impl.Item{}, false
		}
		numbers, words[i] = append(numbers, n), "N"
	}
	if slices.Contains(strings.Split(s, " "), "N") || !itemForm.MatchString(strings.Join(words, " ")) {
		return impl.Item{}, false
	}
	var x impl.Item
	switch words[0] {
	case "box":
		x = box(numbers[0])
	case "glue":
		x = glue(numbers[0], numbers[1], numbers[2])
	case "penalty":
		x = penalty(numbers[1], numbers[0])
		x.Flagged = len(words) == 5
	}
	if !isItem(x) {
		return impl.Item{}, false
	}
	return x, true
}

// isItem reports whether an item that was written in its text form is valid.
func isItem(x impl.Item) bool {
	for _, n := range []int{x.Size.Width, x.Size.Stretch, x.Size.Shrink} {
		if n < 0 || n > 1000 {
			return false
		}
	}
	return x.Size.Shrink <= x.Size.Width && x.Penalty >= -1000 && x.Penalty <= 1000
}

// wantItems reads a paragraph.
func wantItems(s string) ([]impl.Item, bool) {
	var list []impl.Item
	for _, text := range strings.Split(s, "; ") {
		x, ok := wantItem(text)
		if !ok {
			return nil, false
		}
		list = append(list, x)
	}
	if len(list) > 60 || !isForced(list[len(list)-1]) {
		return nil, false
	}
	return list, true
}

// someItems goes over valid items of all kinds, with all numbers of boxes and penalties.
func someItems(visit func(x impl.Item)) {
	edges := []int{0, 1, 2, 9, 10, 11, 99, 100, 101, 998, 999, 1000}
	for n := range 1001 {
		visit(box(n))
		visit(glue(n, 1000-n, n))
		visit(glue(n, n, 0))
		visit(glue(n, 7, n/2))
		for _, width := range edges {
			for _, value := range []int{n, -n} {
				visit(penalty(width, value))
				visit(hyphen(width, value))
			}
		}
	}
	for _, width := range edges {
		for _, stretch := range edges {
			for _, shrink := range edges {
				if shrink <= width {
					visit(glue(width, stretch, shrink))
				}
			}
		}
	}
}

// checkItemText checks DecodeItem of a text, and reports whether it succeeds.
func checkItemText(t *testing.T, s string) bool {
	t.Helper()
	x, ok := impl.DecodeItem(s)
	if want, is := wantItem(s); x != want || ok != is {
		t.Errorf("DecodeItem(%.80q) = %v, %v, want %v, %v", s, x, ok, want, is)
	}
	if ok && impl.EncodeItem(x) != s {
		t.Errorf("EncodeItem of DecodeItem(%q) = %q", s, impl.EncodeItem(x))
	}
	return ok
}

// checkItemsText checks DecodeItems of a text, and reports whether it succeeds.
func checkItemsText(t *testing.T, s string) bool {
	t.Helper()
	list, ok := impl.DecodeItems(s)
	if want, is := wantItems(s); !slices.Equal(list, want) || ok != is {
		t.Errorf("DecodeItems(%.80q) = %v, %v, want %v, %v", s, list, ok, want, is)
	}
	if !ok && list != nil {
		t.Errorf("DecodeItems(%.80q) fails, but has items", s)
	}
	if ok && (impl.EncodeItems(list) != s || !impl.ValidItems(list)) {
		t.Errorf("EncodeItems of DecodeItems(%q) = %q", s, impl.EncodeItems(list))
	}
	return ok
}

// badItemTexts returns texts that are no text form of an item.
func badItemTexts() []string {
	list := []string{
		"", " ", "  ", ";", "; ", "box", "box ", "glue", "glue ", "penalty", "penalty ", "flagged", "0", "6", "N", "box N",
		"Box 6", "BOX 6", "bo 6", "boxes 6", "box6", "box  6", "box\t6", "box\n6", " box 6", "box 6 ", "box 6  ", "box 6\n", "box 6\x00", "\ufeffbox 6", "box\u00a06",
		"box 6 6", "box 6 flagged", "box 6 plus 2 minus 1", "box 6 width 0", "box flagged", "box 6;", "box 6; ", "; box 6", "box 6; box 6",
		"glue 4", "glue 4 ", "glue 4 plus", "glue 4 plus ", "glue 4 plus 2", "glue 4 plus 2 ", "glue 4 plus 2 minus", "glue 4 plus 2 minus ",
		"glue 4 minus 1", "glue 4 minus 1 plus 2", "glue plus 2 minus 1", "glue 4 2 1", "glue 4 plus 2 plus 1", "glue 4 minus 2 minus 1",
		"glue 4 plus 2 minus 1 ", "glue 4 plus 2 minus 1 flagged", "glue 4 plus 2 minus 1 1", "glue 4 plus 2 minus 1 minus 1", "glue 4  plus 2 minus 1",
		"penalty 5", "penalty 5 ", "penalty 5 width", "penalty 5 width ", "penalty 5 flagged", "penalty width 0", "penalty 5 0", "width 0 penalty 5",
		"penalty 5 width 0 ", "penalty 5 width 0  flagged", "penalty 5 width 0 flag", "penalty 5 width 0 flagge", "penalty 5 width 0 flaggedd", "penalty 5 width 0 Flagged",
		"penalty 5 width 0 flagged ", "penalty 5 width 0 flagged flagged", "penalty 5 width 0 flagged 1", "penalty 5 width flagged", "penalty 5 flagged width 0",
		"penalty flagged 5 width 0", "flagged penalty 5 width 0", "penalty 5 width 0flagged", "penalty 5 width 0 true", "penalty 5 width 0 unflagged", "penalty 5 width 0 0",
		strings.Repeat("box ", 10000), "box " + strings.Repeat("0", 10000), "box " + strings.Repeat("9", 10000), "box 6" + strings.Repeat(" ", 10000),
	}
	for _, number := range []string{
		"", " ", "00", "06", "006", "-0", "-1", "-06", "+6", "+0", "-", "+", "--6", "6-", "6.", "6.0", ".6", "6e0", "0x6", "0b1", "0o6", "1_0", "1,000", "six", "x",
		"1001", "-1001", "2000", "10000", "4294967302", "9223372036854775807", "9223372036854775808", "-9223372036854775808", "18446744073709551622", "\u0666", "\uff16", "6\n", "\n6", "6\x00",
	} {
		list = append(list, "box "+number, "glue "+number+" plus 2 minus 1", "glue 4 plus "+number+" minus 1", "glue 4 plus 2 minus "+number,
			"penalty 5 width "+number, "penalty 5 width "+number+" flagged")
		if number != "-1" {
			list = append(list, "penalty "+number+" width 0", "penalty "+number+" width 0 flagged")
		}
	}
	return append(list, "glue 4 plus 2 minus 5", "glue 0 plus 0 minus 1", "glue 999 plus 1000 minus 1000", "penalty -01 width 0", "penalty -00 width 0", "penalty - 1 width 0")
}

// Promise 125.
func TestP125ItemsCanBeRead(t *testing.T) {
	n := 0
	someItems(func(x impl.Item) {
		s := impl.EncodeItem(x)
		if want := wantText(x); s != want {
			t.Errorf("EncodeItem(%v) = %q, want %q", x, s, want)
		}
		if back, ok := impl.DecodeItem(s); !ok || back != x {
			t.Errorf("DecodeItem(%q) = %v, %v", s, back, ok)
		}
		n++
	})
	if n < 50000 {
		t.Errorf("there are only %d items", n)
	}
}

func TestP125TextFormsOfItems(t *testing.T) {
	for _, c := range []struct {
		item impl.Item
		want string
	}{
		{box(0), "box 0"},
		{box(1000), "box 1000"},
		{glue(0, 0, 0), "glue 0 plus 0 minus 0"},
		{glue(4, 2, 1), "glue 4 plus 2 minus 1"},
		{glue(7, 1000, 7), "glue 7 plus 1000 minus 7"},
		{glue(1000, 0, 1000), "glue 1000 plus 0 minus 1000"},
		{penalty(3, 50), "penalty 50 width 3"},
		{hyphen(3, 50), "penalty 50 width 3 flagged"},
		{penalty(0, 0), "penalty 0 width 0"},
		{hyphen(0, 0), "penalty 0 width 0 flagged"},
		{penalty(0, -7), "penalty -7 width 0"},
		{stop(), "penalty -1000 width 0"},
		{hyphen(1000, -1000), "penalty -1000 width 1000 flagged"},
		{hyphen(1000, 1000), "penalty 1000 width 1000 flagged"},
	} {
		equalText(t, "EncodeItem", impl.EncodeItem(c.item), c.want)
		if x, ok := impl.DecodeItem(c.want); !ok || x != c.item {
			t.Errorf("DecodeItem(%q) = %v, %v", c.want, x, ok)
		}
	}
}

func TestP125InvalidItemsHaveNoTextForm(t *testing.T) {
	for what, x := range invalidItems() {
		equalText(t, what+": EncodeItem", impl.EncodeItem(x), "")
	}
	equalText(t, "EncodeItem of the zero item", impl.EncodeItem(impl.Item{}), "")
	equalText(t, "EncodeItem of a flagged item", impl.EncodeItem(impl.Item{Flagged: true}), "")
}

// Promise 126.
func TestP126TheTextFormOfItemsIsCanonical(t *testing.T) {
	for _, s := range badItemTexts() {
		if checkItemText(t, s) {
			t.Errorf("DecodeItem(%.80q) succeeds", s)
		}
	}
	for _, word := range badWords {
		checkItemText(t, word)
		checkItemText(t, "box "+word)
		checkItemText(t, "penalty 5 width 0 "+word)
	}
}

func TestP126ChangedTextFormsOfItems(t *testing.T) {
	decoded, failed := 0, 0
	check := func(s string) {
		if checkItemText(t, s) {
			decoded++
		} else {
			failed++
		}
	}
	for _, s := range []string{
		"box 0", "box 6", "box 100", "box 1000", "glue 4 plus 2 minus 1", "glue 10 plus 0 minus 10", "glue 1000 plus 1000 minus 1000",
		"penalty 5 width 0", "penalty -50 width 10 flagged", "penalty -1000 width 1000", "penalty 1000 width 0 flagged",
	} {
		changedTexts(s, formLetters, func(changed string) {
			check(changed)
			changedTexts(changed, " 0-", check)
		})
		for i := range s {
			check(s[:i])
			check(s[i:])
		}
	}
	if decoded < 1000 || failed < 10000 {
		t.Errorf("%d texts are items, and %d are not", decoded, failed)
	}
}

func TestP126WordsOfItemsInAnyOrder(t *testing.T) {
	words := []string{"box", "glue", "penalty", "plus", "minus", "width", "flagged", "0", "7", "-7", "07", ""}
	decoded := 0
	check := func(list []string) {
		if checkItemText(t, strings.Join(list, " ")) {
			decoded++
		}
	}
	for length := 1; length <= 4; length++ {
		allLevels(length, 0, len(words)-1, func(list []int) {
			var chosen []string
			for _, i := range list {
				chosen = append(chosen, words[i])
			}
			check(chosen)
		})
	}
	// All words but one or two are those of an item.
	for _, s := range []string{"box 7", "glue 7 plus 7 minus 7", "penalty 7 width 7", "penalty 7 width 7 flagged"} {
		list := strings.Split(s, " ")
		for i := range list {
			for _, one := range words {
				changed := slices.Clone(list)
				changed[i] = one
				check(changed)
				check(slices.Insert(slices.Clone(list), i, one))
				check(append(slices.Clone(list), one))
				for k := range i {
					for _, other := range words {
						changed[k] = other
						check(changed)
					}
					changed[k] = list[k]
				}
			}
			check(slices.Delete(slices.Clone(list), i, i+1))
		}
	}
	if decoded < 50 {
		t.Errorf("only %d texts are items", decoded)
	}
}

// Promise 127.
func TestP127ParagraphsCanBeRead(t *testing.T) {
	r := fixed()
	list := someParagraphs(1000)
	for range 20 {
		list = append(list, wideParagraph(r), slices.Repeat([]impl.Item{randomItem(r)}, 59))
	}
	someItems(func(x impl.Item) {
		if r.Intn(20) == 0 {
			list = append(list, []impl.Item{x, stop()})
		}
	})
	list = append(list, slices.Repeat([]impl.Item{stop()}, 60), slices.Repeat([]impl.Item{hyphen(1000, -1000)}, 60))
	for _, list := range list {
		if !impl.ValidItems(list) {
			list = append(list, stop())
		}
		s := impl.EncodeItems(list)
		if want := wantTexts(list); s != want {
			t.Errorf("EncodeItems(%v) = %q, want %q", list, s, want)
		}
		if back, ok := impl.DecodeItems(s); !ok || !slices.Equal(back, list) {
			t.Errorf("DecodeItems(%q) = %v, %v", s, back, ok)
		}
	}
}

func TestP127BuiltParagraphsCanBeRead(t *testing.T) {
	r := fixed()
	hyphens := 0
	for range 300 {
		f, patterns := randomFont(r), randomPatterns(r, 5)
		var words []string
		for range 1 + r.Intn(5) {
			words = append(words, randomWord(r, 8))
		}
		list, ok := impl.BuildParagraph(f, patterns, words)
		if !ok {
			continue
		}
		s := impl.EncodeItems(list)
		if back, ok := impl.DecodeItems(s); !ok || !slices.Equal(back, list) {
			t.Errorf("DecodeItems(%q) = %v, %v", s, back, ok)
		}
		hyphens += strings.Count(s, " flagged")
	}
	if hyphens < 100 {
		t.Errorf("there are only %d hyphens", hyphens)
	}
}

func TestP127TextFormsOfParagraphs(t *testing.T) {
	for _, c := range []struct {
		list []impl.Item
		want string
	}{
		{[]impl.Item{stop()}, "penalty -1000 width 0"},
		{[]impl.Item{box(6), glue(4, 2, 1), hyphen(3, 50), stop()}, "box 6; glue 4 plus 2 minus 1; penalty 50 width 3 flagged; penalty -1000 width 0"},
		{[]impl.Item{stop(), penalty(0, 1000), hyphen(2, -1000)}, "penalty -1000 width 0; penalty 1000 width 0; penalty -1000 width 2 flagged"},
	} {
		equalText(t, "EncodeItems", impl.EncodeItems(c.list), c.want)
		if list, ok := impl.DecodeItems(c.want); !ok || !slices.Equal(list, c.list) {
			t.Errorf("DecodeItems(%q) = %v, %v", c.want, list, ok)
		}
	}
	for what, list := range invalidParagraphs() {
		equalText(t, what+": EncodeItems", impl.EncodeItems(list), "")
	}
	equalText(t, "EncodeItems of no items", impl.EncodeItems([]impl.Item{}), "")
}

// Promise 128.
func TestP128TheTextFormOfParagraphsIsCanonical(t *testing.T) {
	const end = "penalty -1000 width 0"
	for _, s := range []string{
		"", " ", ";", "; ", ";;", "box 6", "box 6; glue 4 plus 2 minus 1", "penalty -999 width 0", "penalty 1000 width 0",
		end + "; box 6", end + "; penalty -999 width 0", end + ";", end + "; ", end + " ", end + "\n", ";" + end, "; " + end, " " + end,
		"box 6;" + end, "box 6 ; " + end, "box 6 " + end, "box 6;  " + end, "box 6; ; " + end, "box 6;; " + end, "box 6, " + end, "box 6\n" + end, "box 6;\n" + end, "box 6: " + end,
		"box 06; " + end, "box -1; " + end, "box 1001; " + end, "box; " + end, "box 6; penalty -1000", "box 6; penalty -1000 width 0 flag", "box 6; penalty -1000 width -1",
		strings.Repeat("box 6; ", 60) + end, strings.Repeat(end+"; ", 60) + end, strings.Repeat("box 6; ", 100000) + end, strings.Repeat("; ", 100000),
	} {
		if checkItemsText(t, s) {
			t.Errorf("DecodeItems(%.80q) succeeds", s)
		}
	}
	for _, s := range badItemTexts() {
		checkItemsText(t, s)
		if checkItemsText(t, s+"; "+end) != (s == "box 6; box 6") || checkItemsText(t, "box 6; "+s+"; "+end) != (s == "box 6; box 6") {
			t.Errorf("DecodeItems succeeds with the item %.80q", s)
		}
	}
	if !checkItemsText(t, strings.Repeat("box 6; ", 59)+end) || !checkItemsText(t, strings.Repeat(end+"; ", 59)+end) {
		t.Error("60 items cannot be read")
	}
}

func TestP128ChangedTextFormsOfParagraphs(t *testing.T) {
	decoded, failed := 0, 0
	check := func(s string) {
		if checkItemsText(t, s) {
			decoded++
		} else {
			failed++
		}
	}
	r := fixed()
	for _, list := range someParagraphs(60) {
		s := wantTexts(list)
		check(s)
		changedTexts(s, formLetters, func(changed string) {
			if len(s) < 60 || r.Intn(8) == 0 {
				check(changed)
			}
		})
		for i := range s {
			check(s[:i])
			check(s[i:])
		}
	}
	if decoded < 1000 || failed < 10000 {
		t.Errorf("%d texts are paragraphs, and %d are not", decoded, failed)
	}
}

func TestEncodedItemsAreNotChangedOrShared(t *testing.T) {
	list := []impl.Item{box(6), glue(4, 2, 1), hyphen(3, 50), stop(), box(7)}[:4]
	kept := slices.Clone(list[:5])
	for range 2 {
		s := impl.EncodeItems(list)
		back, ok := impl.DecodeItems(s)
		if !ok || !slices.Equal(back, kept[:4]) {
			t.Errorf("DecodeItems(%q) = %v, %v", s, back, ok)
		}
		clear(back[:cap(back)])
	}
	if !slices.Equal(list[:5], kept) {
		t.Errorf("the items became %v", list[:5])
	}
}
