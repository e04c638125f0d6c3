package tests

import (
	"fmt"
	"slices"
	"strconv"
	"strings"
	"testing"

	"loop.example/typesetting/impl"
)

// mention returns a mention of a word.
func mention(word string, page int) impl.Mention {
	return impl.Mention{Word: word, Page: page}
}

// entry returns an entry of an index.
func entry(word string, pages ...int) impl.Entry {
	return impl.Entry{Word: word, Pages: pages}
}

// countTo returns the numbers from 1 to n.
func countTo(n int) []int {
	list := ascending(n)
	for i := range list {
		list[i]++
	}
	return list
}

// differentWords returns n words in alphabetical order.
func differentWords(n int) []string {
	var list []string
	for i := range n {
		list = append(list, string([]byte{byte('a' + i/26), byte('a' + i%26)}))
	}
	return list
}

// wordIndex returns an index of n words on page 1.
func wordIndex(n int) []impl.Entry {
	var list []impl.Entry
	for _, word := range differentWords(n) {
		list = append(list, entry(word, 1))
	}
	return list
}

// randomMentions returns up to n mentions, many of the same words and pages.
func randomMentions(r randomSource, n int) []impl.Mention {
	words := []string{"a", "aa", "aaa", "ab", "abc", "b", "ba", "z", "zz", strings.Repeat("z", 20)}
	var list []impl.Mention
	for range r.Intn(n + 1) {
		page := 1 + r.Intn(9)
		if r.Intn(8) == 0 {
			page = []int{10, 99, 100, 1000, 3998, 3999}[r.Intn(6)]
		}
		list = append(list, mention(words[r.Intn(len(words))], page))
	}
	return list
}

// someMentions goes over mentions.
func someMentions(n int, visit func(list []impl.Mention)) {
	full := []impl.Mention{}
	for i, word := range differentWords(40) {
		full = append(full, mention(word, 40-i))
	}
	for _, list := range [][]impl.Mention{
		nil, {mention("a", 1)}, {mention("z", 3999)}, {mention("b", 1), mention("a", 1)}, {mention("a", 2), mention("a", 1)},
		slices.Repeat([]impl.Mention{mention("a", 1)}, 40), {mention("ab", 1), mention("a", 1), mention("b", 1), mention("aa", 1)}, full,
	} {
		visit(list)
	}
	r := fixed()
	for range n {
		visit(randomMentions(r, []int{4, 12, 40}[r.Intn(3)]))
	}
}

// wantIndex inserts the mentions one by one.
func wantIndex(list []impl.Mention) []impl.Entry {
	var all []impl.Entry
	for _, m := range list {
		i := 0
		for i < len(all) && all[i].Word < m.Word {
			i++
		}
		if i == len(all) || all[i].Word != m.Word {
			all = slices.Insert(all, i, entry(m.Word))
		}
		k := 0
		for k < len(all[i].Pages) && all[i].Pages[k] < m.Page {
			k++
		}
		if k == len(all[i].Pages) || all[i].Pages[k] != m.Page {
			all[i].Pages = slices.Insert(all[i].Pages, k, m.Page)
		}
	}
	return all
}

// mentionsOf returns a mention for each page of each entry.
func mentionsOf(list []impl.Entry) []impl.Mention {
	var all []impl.Mention
	for _, e := range list {
		for _, page := range e.Pages {
			all = append(all, mention(e.Word, page))
		}
	}
	return all
}

// sameIndex reports whether two indexes have the same words and pages in the same order.
func sameIndex(a, b []impl.Entry) bool {
	return slices.EqualFunc(a, b, func(x, y impl.Entry) bool {
		return x.Word == y.Word && slices.Equal(x.Pages, y.Pages)
	})
}

// wantPagesText writes pages as runs, each of which it finds from its last page.
func wantPagesText(list []int) string {
	text := ""
	for i, page := range list {
		inRun := i > 0 && list[i-1] == page-1
		goesOn := i+1 < len(list) && list[i+1] == page+1
		switch {
		case inRun && goesOn:
			continue
		case inRun && i > 1 && list[i-2] == page-2:
			text += "-"
		case i > 0:
			text += ", "
		}
		text += strconv.Itoa(page)
	}
	return text
}

// invalidPages returns lists that have no text of pages, by what is wrong.
func invalidPages() map[string][]int {
	list := map[string][]int{
		"no pages":         nil,
		"an empty list":    {},
		"41 pages":         countTo(41),
		"10000 pages":      countTo(10000),
		"a page twice":     {1, 1},
		"a later one":      {3, 1, 2},
		"last ones turned": {1, 2, 4, 3},
		"the last twice":   {3998, 3999, 3999},
	}
	for _, n := range append([]int{3998, 3999, 4000}, extremes...) {
		if n < 1 || n > 3999 {
			list[fmt.Sprint("page ", n)] = []int{n}
			list[fmt.Sprint("first page ", n)] = []int{n, 2, 3}
			list[fmt.Sprint("last page ", n)] = []int{1, 2, n}
			list[fmt.Sprint("page between ", n)] = []int{1, n, 3}
		}
	}
	return list
}

// invalidIndexes returns lists that are no indexes, by what is wrong.
func invalidIndexes() map[string][]impl.Entry {
	list := map[string][]impl.Entry{
		"41 entries":         wordIndex(41),
		"600 entries":        wordIndex(600),
		"a zero entry":       {{}},
		"no pages":           {entry("a", 1), entry("b")},
		"a word twice":       {entry("a", 1), entry("a", 2)},
		"a wrong order":      {entry("b", 1), entry("a", 1)},
		"a wrong last order": {entry("a", 1), entry("ab", 1), entry("aa", 1)},
		"a beginning behind": {entry("aa", 1), entry("a", 1)},
	}
	for what, pages := range invalidPages() {
		list["an entry with "+what] = []impl.Entry{entry("a", pages...)}
		list["a last entry with "+what] = []impl.Entry{entry("a", 1), entry("b", pages...)}
	}
	for i, word := range badWords {
		list[fmt.Sprint("bad word ", i)] = []impl.Entry{entry(word, 1)}
		list[fmt.Sprint("bad word at the end ", i)] = []impl.Entry{entry("a", 1), entry(word, 1)}
	}
	return list
}

// Promise 86.
func TestP86AnIndexHasAllMentions(t *testing.T) {
	someMentions(5000, func(list []impl.Mention) {
		got := impl.CollectIndex(list)
		if want := wantIndex(list); !sameIndex(got, want) {
			t.Errorf("CollectIndex of %v = %v, want %v", list, got, want)
		}
		for _, m := range list {
			if !slices.ContainsFunc(got, func(e impl.Entry) bool { return e.Word == m.Word && slices.Contains(e.Pages, m.Page) }) {
				t.Errorf("CollectIndex of %v = %v, without %v", list, got, m)
			}
		}
		for _, m := range mentionsOf(got) {
			if !slices.Contains(list, m) {
				t.Errorf("CollectIndex of %v = %v, with %v", list, got, m)
			}
		}
	})
	if got := impl.CollectIndex(nil); len(got) != 0 {
		t.Errorf("CollectIndex of nothing = %v", got)
	}
}

func TestP86CollectIndexFailsForInvalidArguments(t *testing.T) {
	if got := impl.CollectIndex(slices.Repeat([]impl.Mention{mention("a", 1)}, 40)); len(got) != 1 {
		t.Errorf("CollectIndex of 40 mentions = %v", got)
	}
	for _, n := range []int{41, 10000} {
		if got := impl.CollectIndex(slices.Repeat([]impl.Mention{mention("a", 1)}, n)); got != nil {
			t.Errorf("CollectIndex of %d mentions = %v", n, got)
		}
	}
	var bad []impl.Mention
	for _, word := range badWords {
		bad = append(bad, mention(word, 1))
	}
	for _, page := range append([]int{3998, 3999, 4000}, extremes...) {
		if page < 1 || page > 3999 {
			bad = append(bad, mention("a", page))
		}
	}
	for _, m := range bad {
		for _, list := range [][]impl.Mention{{m}, {m, mention("a", 1)}, {mention("a", 1), m}, {mention("a", 1), m, mention("b", 2)}} {
			if got := impl.CollectIndex(list); got != nil {
				t.Errorf("CollectIndex of %.100q = %v", fmt.Sprint(list), got)
			}
		}
	}
}

// Promise 148.
func TestP148TheOrderOfMentionsDoesNotMatter(t *testing.T) {
	r := fixed()
	someMentions(3000, func(list []impl.Mention) {
		want := impl.CollectIndex(list)
		if len(list) > 0 && len(want) == 0 {
			t.Errorf("CollectIndex of %v is empty", list)
		}
		other := slices.Clone(list)
		slices.Reverse(other)
		if got := impl.CollectIndex(other); !sameIndex(got, want) {
			t.Errorf("CollectIndex of %v = %v, but in the opposite order %v", list, want, got)
		}
		r.Shuffle(len(other), func(i, k int) { other[i], other[k] = other[k], other[i] })
		if got := impl.CollectIndex(other); !sameIndex(got, want) {
			t.Errorf("CollectIndex of %v = %v, but in another order %v", list, want, got)
		}
		for range 3 {
			if got := impl.CollectIndex(list); !sameIndex(got, want) {
				t.Errorf("CollectIndex of %v = %v, and then %v", list, want, got)
			}
		}
	})
}

// somePages goes over lists of pages with all kinds of runs.
func somePages(n int, visit func(list []int)) {
	for set := 1; set < 1<<11; set++ {
		var low, high []int
		for i := range 11 {
			if set>>i&1 == 1 {
				low, high = append(low, i+1), append(high, 3989+i)
			}
		}
		visit(low)
		visit(high)
	}
	visit(countTo(40))
	r := fixed()
	for range n {
		var list []int
		page := r.Intn(3900)
		for range 1 + r.Intn(40) {
			page++
			if r.Intn(3) == 0 {
				page += 1 + r.Intn(3)
			}
			if page <= 3999 {
				list = append(list, page)
			}
		}
		visit(list)
	}
}

// Promise 87.
func TestP87TextsOfPagesCanBeRead(t *testing.T) {
	somePages(3000, func(list []int) {
		s := impl.FormatPages(list)
		if want := wantPagesText(list); s != want {
			t.Errorf("FormatPages of %v = %q, want %q", list, s, want)
		}
		if back, ok := impl.ParsePages(s); !ok || !slices.Equal(back, list) {
			t.Errorf("ParsePages(%q) = %v, %v, want %v", s, back, ok, list)
		}
	})
}

func TestP87RunsOfThreePagesAreJoined(t *testing.T) {
	alternate := ""
	var odd []int
	for i := range 40 {
		odd = append(odd, 3921+2*i)
		alternate += ", " + strconv.Itoa(3921+2*i)
	}
	for _, c := range []struct {
		list []int
		want string
	}{
		{[]int{1}, "1"}, {[]int{3999}, "3999"}, {[]int{1, 2}, "1, 2"}, {[]int{1, 2, 3}, "1-3"}, {[]int{1, 3}, "1, 3"}, {[]int{1, 3, 5}, "1, 3, 5"},
		{[]int{1, 2, 4, 5}, "1, 2, 4, 5"}, {[]int{1, 2, 4, 5, 6, 9}, "1, 2, 4-6, 9"}, {[]int{1, 2, 3, 5, 6, 7}, "1-3, 5-7"}, {[]int{1, 2, 3, 5, 6}, "1-3, 5, 6"},
		{[]int{1, 3, 4, 5}, "1, 3-5"}, {[]int{9, 10, 11}, "9-11"}, {[]int{9, 11, 99, 100}, "9, 11, 99, 100"}, {[]int{3997, 3998, 3999}, "3997-3999"}, {[]int{3998, 3999}, "3998, 3999"},
		{countTo(40), "1-40"}, {odd, alternate[2:]},
	} {
		if s := impl.FormatPages(c.list); s != c.want {
			t.Errorf("FormatPages of %v = %q, want %q", c.list, s, c.want)
		}
		if list, ok := impl.ParsePages(c.want); !ok || !slices.Equal(list, c.list) {
			t.Errorf("ParsePages(%q) = %v, %v", c.want, list, ok)
		}
	}
}

func TestP87FormatPagesFailsForInvalidArguments(t *testing.T) {
	for what, list := range invalidPages() {
		if s := impl.FormatPages(list); s != "" {
			t.Errorf("%s: FormatPages = %q", what, s)
		}
	}
}

// checkPagesText checks that a text is either read as what FormatPages writes as this text, or not at all.
func checkPagesText(t *testing.T, s string) bool {
	t.Helper()
	list, ok := impl.ParsePages(s)
	if !ok && list != nil {
		t.Errorf("ParsePages(%.60q) fails with %v", s, list)
	}
	if ok && (len(list) == 0 || impl.FormatPages(list) != s || wantPagesText(list) != s) {
		t.Errorf("ParsePages(%.60q) = %v", s, list)
	}
	return ok
}

// Promise 88.
func TestP88TheTextOfPagesIsCanonical(t *testing.T) {
	read := 0
	count := func(s string) {
		if checkPagesText(t, s) {
			read++
		}
	}
	allTexts("0129-, ", 6, count)
	if read < 200 {
		t.Errorf("only %d texts could be read", read)
	}
	for _, s := range []string{"1", "1, 2, 4-6, 9", "1-3, 5-7", "9-11, 3997-3999", "10, 20, 30", "1-40"} {
		if !checkPagesText(t, s) {
			t.Errorf("ParsePages(%q) fails", s)
		}
		changedTexts(s, "0123456789-, +x\x00", count)
	}
}

func TestP88ParsePagesFailsForOtherTexts(t *testing.T) {
	for _, s := range []string{
		"", " ", ",", ", ", "-", "0", "-1", "+1", "01", "1.", "1 ", " 1", "1,", "1, ", ", 1", "1,2", "1,  2", "1 , 2", "1 2", "1;2", "1, , 2", "a", "i", "1a", "0x1", "1_0", "1e1", "\u0661",
		"1-2", "1-1", "2-1", "3-1", "1--3", "1-", "-3", "1-3-5", "1 - 3", "1- 3", "1, 2, 3", "1, 2-4", "1-3, 4", "1-3, 4-6", "1-3, 3", "1-3, 2-5", "1-3, 1-3", "4-6, 7", "4-6, 7-9", "4-6, 1", "01-3", "1-03", "+1-3", "1-+3", "0-3", "0-2, 4",
		"1, 1", "2, 1", "1, 3, 2", "4000", "3998-4000", "3999, 4000", "1-41", "1-4000", "1-39, 41, 43", "10000000000000000000", "18446744073709551617", "1-18446744073709551619", "18446744073709551617-3", "9223372036854775807", "9223372036854775805-9223372036854775807", "-9223372036854775808", "1-9223372036854775807", "1, 9223372036854775808",
		strings.Repeat("1-3999, ", 100000) + "1", strings.Repeat("1", 100000), strings.Repeat("1, ", 100000) + "1", strings.Repeat("-", 100000), strings.Repeat(", ", 100000), "1" + strings.Repeat(" ", 100000),
	} {
		if list, ok := impl.ParsePages(s); ok || list != nil {
			t.Errorf("ParsePages(%.60q) = %v, %v", s, list, ok)
		}
	}
	text := "1"
	for page := 3; page <= 79; page += 2 {
		text += ", " + strconv.Itoa(page)
	}
	if list, ok := impl.ParsePages(text); !ok || len(list) != 40 {
		t.Errorf("ParsePages of 40 pages = %v, %v", list, ok)
	}
	if list, ok := impl.ParsePages(text + ", 81"); ok || list != nil {
		t.Errorf("ParsePages of 41 pages = %v, %v", list, ok)
	}
}

// wantMerged returns the index of all words and pages of both; nil if they are too many.
func wantMerged(a, b []impl.Entry) []impl.Entry {
	merged := wantIndex(slices.Concat(mentionsOf(a), mentionsOf(b)))
	if len(merged) > 40 || slices.ContainsFunc(merged, func(e impl.Entry) bool { return len(e.Pages) > 40 }) {
		return nil
	}
	return merged
}

// Promise 89.
func TestP89MergingIsCommutative(t *testing.T) {
	r := fixed()
	someMentions(3000, func(list []impl.Mention) {
		a, b := wantIndex(list), wantIndex(randomMentions(r, 30))
		merged := impl.MergeIndex(a, b)
		if want := wantMerged(a, b); !sameIndex(merged, want) {
			t.Errorf("MergeIndex of %v and %v = %v, want %v", a, b, merged, want)
		}
		if other := impl.MergeIndex(b, a); !sameIndex(merged, other) {
			t.Errorf("MergeIndex of %v and %v = %v, but in the other order %v", a, b, merged, other)
		}
		if same := impl.MergeIndex(a, a); !sameIndex(same, a) {
			t.Errorf("MergeIndex of %v with itself = %v", a, same)
		}
		if again := impl.MergeIndex(merged, b); merged != nil && !sameIndex(again, merged) {
			t.Errorf("MergeIndex of %v with a part = %v", merged, again)
		}
	})
}

func TestP89MergedIndexesHaveLimits(t *testing.T) {
	all := wordIndex(41)
	odd, even := []int{}, []int{}
	for i := range 20 {
		odd, even = append(odd, 2*i+1), append(even, 2*i+2)
	}
	for _, c := range []struct {
		a, b  []impl.Entry
		valid bool
	}{
		{all[:40], all[:40], true}, {all[:40], nil, true}, {all[:20], all[20:40], true}, {all[:39], all[1:40], true}, {all[:40], all[39:40], true},
		{all[:40], all[40:], false}, {all[:20], all[20:], false}, {all[:21], all[20:], false}, {all[:40], all[1:], false},
		{[]impl.Entry{entry("a", odd...)}, []impl.Entry{entry("a", even...)}, true},
		{[]impl.Entry{entry("a", countTo(40)...)}, []impl.Entry{entry("a", 1, 20, 40)}, true},
		{[]impl.Entry{entry("a", countTo(40)...)}, []impl.Entry{entry("a", 41)}, false},
		{[]impl.Entry{entry("a", countTo(40)...)}, []impl.Entry{entry("a", 1, 3999)}, false},
		{[]impl.Entry{entry("a", odd...)}, []impl.Entry{entry("a", append(even[:20:20], 41)...)}, false},
		{[]impl.Entry{entry("a", countTo(40)...)}, []impl.Entry{entry("b", 41)}, true},
		{[]impl.Entry{entry("a", 1), entry("c", countTo(40)...)}, []impl.Entry{entry("b", 1), entry("c", 50)}, false},
	} {
		for _, got := range [][]impl.Entry{impl.MergeIndex(c.a, c.b), impl.MergeIndex(c.b, c.a)} {
			if c.valid && !sameIndex(got, wantMerged(c.a, c.b)) || !c.valid && got != nil {
				t.Errorf("MergeIndex of %v and %v = %v", c.a, c.b, got)
			}
		}
	}
}

func TestP89MergeIndexFailsForInvalidArguments(t *testing.T) {
	for what, list := range invalidIndexes() {
		for _, other := range [][]impl.Entry{nil, {entry("a", 1)}, list} {
			if got := impl.MergeIndex(list, other); got != nil {
				t.Errorf("%s: MergeIndex = %v", what, got)
			}
			if got := impl.MergeIndex(other, list); got != nil {
				t.Errorf("%s: MergeIndex in the other order = %v", what, got)
			}
		}
	}
}

// Promise 90.
func TestP90IndexesOfPartsAreMerged(t *testing.T) {
	r := fixed()
	someMentions(5000, func(list []impl.Mention) {
		at := r.Intn(len(list) + 1)
		got := impl.MergeIndex(impl.CollectIndex(list[:at]), impl.CollectIndex(list[at:]))
		if want := impl.CollectIndex(list); !sameIndex(got, want) || !sameIndex(got, wantIndex(list)) {
			t.Errorf("MergeIndex of the indexes of %v and %v = %v, want %v", list[:at], list[at:], got, want)
		}
	})
}

// Promise 145.
func TestP145MergingWithNothingChangesNothing(t *testing.T) {
	check := func(list []impl.Entry) {
		if a, b := impl.MergeIndex(list, nil), impl.MergeIndex([]impl.Entry{}, list); !sameIndex(a, list) || !sameIndex(b, list) {
			t.Errorf("MergeIndex of %v and nothing = %v, %v", list, a, b)
		}
	}
	someMentions(2000, func(list []impl.Mention) { check(wantIndex(list)) })
	check(nil)
	check(wordIndex(40))
	check([]impl.Entry{entry("a", countTo(40)...), entry(strings.Repeat("z", 20), 3999)})
}

func TestIndexesAreNotChangedOrShared(t *testing.T) {
	list := []impl.Mention{mention("b", 3), mention("a", 2), mention("b", 1), mention("b", 3)}
	kept := slices.Clone(list)
	want := []impl.Entry{entry("a", 2), entry("b", 1, 3)}
	a, b := []impl.Entry{entry("a", 1, 2), entry("c", 4)}, []impl.Entry{entry("b", 9), entry("c", 3, 5, 4001)}
	b[1].Pages = b[1].Pages[:2] // with spare capacity, as it were the place of further pages
	pages := []int{1, 2, 3}
	for range 2 {
		got := impl.CollectIndex(list)
		if !sameIndex(got, want) {
			t.Errorf("CollectIndex = %v", got)
		}
		checkEntriesApart(t, got)
		merged := impl.MergeIndex(a, b)
		if !sameIndex(merged, []impl.Entry{entry("a", 1, 2), entry("b", 9), entry("c", 3, 4, 5)}) {
			t.Errorf("MergeIndex = %v", merged)
		}
		checkEntriesApart(t, merged)
		checkEntriesApart(t, impl.MergeIndex(a, nil))
		impl.FormatPages(pages)
		read, _ := impl.ParsePages("1-3")
		equalInts(t, "ParsePages", read, 1, 2, 3)
		clear(read[:cap(read)])
	}
	equalInts(t, "the pages", pages, 1, 2, 3)
	if !slices.Equal(list, kept) {
		t.Errorf("the mentions became %v", list)
	}
	if !sameIndex(a, []impl.Entry{entry("a", 1, 2), entry("c", 4)}) || !sameIndex(b, []impl.Entry{entry("b", 9), entry("c", 3, 5)}) || b[1].Pages[:3][2] != 4001 {
		t.Errorf("the indexes became %v and %v", a, b)
	}
}

// checkEntriesApart overwrites each entry in turn, which must not change the next ones.
func checkEntriesApart(t *testing.T, list []impl.Entry) {
	t.Helper()
	for i, e := range list {
		rest := mentionsOf(list[i+1:])
		clear(e.Pages[:cap(e.Pages)])
		if !slices.Equal(mentionsOf(list[i+1:]), rest) {
			t.Errorf("the entries behind %d share its pages", i)
		}
	}
	clear(list[:cap(list)])
}
