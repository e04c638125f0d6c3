package tests

import (
	"fmt"
	"slices"
	"testing"

	"loop.example/typesetting/impl"
)

// blocks returns blocks with the given lines, labels and references, in turn.
func blocks(fields ...int) []impl.Block {
	var list []impl.Block
	for i := 0; i < len(fields); i += 3 {
		list = append(list, impl.Block{Lines: fields[i], Label: fields[i+1], Refers: fields[i+2]})
	}
	return list
}

// knownPages returns the pages of the labels from 1 on; those of all further ones are 0.
func knownPages(pages ...int) []int {
	known := make([]int, impl.MaxLabel+1)
	copy(known[1:], pages)
	return known
}

// randomBlocks returns up to n blocks, some with labels, and with references of which many occur.
func randomBlocks(r randomSource, n, lines int) []impl.Block {
	var list []impl.Block
	labels := []int{1, 2, 3, 4, 5, 6, 7, 8, 9}
	for range r.Intn(n + 1) {
		b := impl.Block{Lines: 1 + r.Intn(lines)}
		if len(labels) > 0 && r.Intn(2) == 0 {
			i := r.Intn(len(labels))
			b.Label = labels[i]
			labels = slices.Delete(labels, i, i+1)
		}
		if r.Intn(2) == 0 {
			b.Refers = 1 + r.Intn(9)
		}
		list = append(list, b)
	}
	return list
}

// randomKnown returns pages of labels with few and with many digits.
func randomKnown(r randomSource) []int {
	known := make([]int, impl.MaxLabel+1)
	for i := range known {
		known[i] = []int{0, 1, 9, 10, 11, 99, 100, 999, 1000, 9999, 10000, r.Intn(10), r.Intn(100), r.Intn(1000)}[r.Intn(14)]
	}
	return known
}

// someBlocks goes over blocks and numbers of lines of pages.
func someBlocks(n int, visit func(list []impl.Block, lines int)) {
	chain := blocks(7, 0, 9, 1, 0, 8, 1, 0, 7, 1, 0, 6)
	for label := 1; label <= 9; label++ {
		chain = append(chain, impl.Block{Lines: 1, Label: label, Refers: label%9 + 1})
	}
	for _, list := range [][]impl.Block{
		nil, blocks(1, 0, 0), blocks(1, 1, 1), blocks(40, 9, 9, 40, 1, 9), blocks(8, 0, 1, 1, 1, 0), blocks(9, 0, 1, 1, 1, 0),
		blocks(3, 0, 1, 40, 0, 0, 1, 1, 0), blocks(5, 0, 7, 5, 0, 7), chain,
		slices.Repeat(blocks(40, 0, 0), 20), append(slices.Repeat(blocks(40, 0, 1), 19), blocks(40, 1, 1)...),
	} {
		for _, lines := range []int{1, 2, 4, 40} {
			visit(list, lines)
		}
	}
	r := fixed()
	for range n {
		lines := 1 + r.Intn(6)
		visit(randomBlocks(r, 20, []int{1, 2, 5, 40}[r.Intn(4)]), lines)
	}
}

// invalidBlocks returns blocks that are not valid, by what is wrong.
func invalidBlocks() map[string][]impl.Block {
	list := map[string][]impl.Block{
		"21 blocks":                      slices.Repeat(blocks(1, 0, 0), 21),
		"10000 blocks":                   slices.Repeat(blocks(1, 0, 0), 10000),
		"a zero block":                   {{}},
		"a label twice":                  blocks(1, 1, 0, 1, 1, 0),
		"the last label twice":           blocks(1, 9, 0, 1, 0, 0, 1, 9, 0),
		"a label twice, between another": blocks(1, 4, 1, 1, 5, 1, 1, 4, 2),
	}
	for _, n := range append([]int{9, 10, 11, 39, 40, 41}, extremes...) {
		if n < 1 || n > 40 {
			list[fmt.Sprint("lines ", n)] = blocks(n, 0, 0)
			list[fmt.Sprint("last lines ", n)] = blocks(1, 1, 0, n, 2, 1)
		}
		if n < 0 || n > 9 {
			list[fmt.Sprint("label ", n)] = blocks(1, n, 0)
			list[fmt.Sprint("last label ", n)] = blocks(1, 1, 1, 1, n, 1)
			list[fmt.Sprint("reference to ", n)] = blocks(1, 0, n)
			list[fmt.Sprint("last reference to ", n)] = blocks(1, 1, 1, 1, 2, n)
		}
	}
	return list
}

// invalidKnown returns lists that are not pages of labels.
func invalidKnown() [][]int {
	list := [][]int{nil, {}, {0}, make([]int, 9), make([]int, 11), make([]int, 10000)}
	for _, n := range extremes {
		if n < 0 || n > 10000 {
			first := knownPages()
			first[0] = n
			list = append(list, first, knownPages(n), knownPages(0, 0, n), knownPages(0, 0, 0, 0, 0, 0, 0, 0, n))
		}
	}
	return list
}

// wantPagesOf sets the blocks line by line.
func wantPagesOf(list []impl.Block, lines int, known []int) []int {
	var pages []int
	page, used := 1, 0
	for _, b := range list {
		pages = append(pages, page)
		n := b.Lines
		for limit := 10; b.Refers != 0 && known[b.Refers] >= limit; limit *= 10 {
			n++
		}
		for range n {
			used++
			if used == lines {
				page, used = page+1, 0
			}
		}
	}
	return pages
}

// wantNew returns the new pages of labels.
func wantNew(list []impl.Block, lines int, known []int) []int {
	next := knownPages()
	for i, page := range wantPagesOf(list, lines, known) {
		if label := list[i].Label; label != 0 {
			next[label] = page
		}
	}
	return next
}

// allConsistent goes over all consistent pages of labels: they follow from the numbers of their digits.
func allConsistent(list []impl.Block, lines int, visit func(known []int)) {
	var labels []int
	for _, b := range list {
		if b.Refers != 0 && !slices.Contains(labels, b.Refers) && slices.ContainsFunc(list, func(x impl.Block) bool { return x.Label == b.Refers }) {
			labels = append(labels, b.Refers)
		}
	}
	guess := knownPages()
	var choose func(n int)
	choose = func(n int) {
		if n < len(labels) {
			for _, page := range []int{1, 10, 100} {
				guess[labels[n]] = page
				choose(n + 1)
			}
			return
		}
		known := wantNew(list, lines, guess)
		if slices.Equal(wantNew(list, lines, known), known) {
			visit(known)
		}
	}
	choose(0)
}

func TestValidBlocksHaveLimits(t *testing.T) {
	for what, list := range invalidBlocks() {
		if impl.ValidBlocks(list) {
			t.Errorf("%s: the blocks are valid", what)
		}
	}
	for _, list := range [][]impl.Block{
		nil, {}, blocks(1, 0, 0), blocks(40, 9, 9), blocks(1, 1, 9, 40, 9, 1), blocks(1, 0, 5, 1, 0, 5, 1, 0, 5), slices.Repeat(blocks(40, 0, 9), 20),
		blocks(1, 9, 0, 1, 8, 0, 1, 7, 0, 1, 6, 0, 1, 5, 0, 1, 4, 0, 1, 3, 0, 1, 2, 0, 1, 1, 0, 1, 0, 0, 1, 0, 0),
	} {
		if !impl.ValidBlocks(list) {
			t.Errorf("%v is not valid", list)
		}
	}
}

// Promise 81.
func TestP81BlocksFollowEachOther(t *testing.T) {
	r := fixed()
	someBlocks(3000, func(list []impl.Block, lines int) {
		if !impl.ValidBlocks(list) {
			t.Fatalf("%v is not valid", list)
		}
		known := randomKnown(r)
		pages := impl.PagesOf(list, lines, known)
		if want := wantPagesOf(list, lines, known); !slices.Equal(pages, want) {
			t.Errorf("PagesOf of %v in pages of %d with %v = %v, want %v", list, lines, known, pages, want)
			return
		}
		if !slices.IsSorted(pages) || len(pages) > 0 && pages[0] != 1 {
			t.Errorf("PagesOf of %v in pages of %d with %v = %v", list, lines, known, pages)
		}
	})
}

func TestP81DigitsNeedLines(t *testing.T) {
	// The page of the second block tells how many lines the first one has.
	for page, want := range map[int]int{0: 2, 1: 2, 9: 2, 10: 3, 11: 3, 99: 3, 100: 4, 999: 4, 1000: 5, 9999: 5, 10000: 6} {
		equalInts(t, fmt.Sprint("PagesOf with the page ", page), impl.PagesOf(blocks(1, 0, 2, 1, 0, 0), 1, knownPages(10000, page, 10000)), 1, want)
		equalInts(t, fmt.Sprint("PagesOf of its own page ", page), impl.PagesOf(blocks(1, 9, 9, 1, 0, 0), 1, knownPages(0, 0, 0, 0, 0, 0, 0, 0, page)), 1, want)
		// A block that refers to nothing does not print the page of label 0.
		known := knownPages()
		known[0] = page
		equalInts(t, fmt.Sprint("PagesOf without references, with the page ", page), impl.PagesOf(blocks(1, 0, 0, 1, 0, 0), 1, known), 1, 2)
	}
	equalInts(t, "PagesOf full pages", impl.PagesOf(blocks(4, 0, 0, 4, 0, 0, 3, 0, 0, 1, 0, 0, 1, 0, 0), 4, knownPages()), 1, 2, 3, 3, 4)
	equalInts(t, "PagesOf pages that are full by a digit", impl.PagesOf(blocks(3, 0, 1, 4, 0, 0, 4, 0, 0), 4, knownPages(10)), 1, 2, 3)
	equalInts(t, "PagesOf the longest document", impl.PagesOf(slices.Repeat(blocks(40, 0, 1), 20), 1, knownPages(10000))[19:], 1+19*44)
	equalInts(t, "PagesOf no blocks", impl.PagesOf(nil, 1, knownPages()))
}

func TestP81PagesOfFailsForInvalidArguments(t *testing.T) {
	for what, list := range invalidBlocks() {
		if got := impl.PagesOf(list, 4, knownPages()); got != nil {
			t.Errorf("%s: PagesOf = %v", what, got)
		}
	}
	list := blocks(1, 1, 1, 2, 0, 0)
	for _, lines := range append([]int{39, 40, 41}, extremes...) {
		if got := impl.PagesOf(list, lines, knownPages()); (len(got) == 2) != (lines >= 1 && lines <= 40) {
			t.Errorf("PagesOf in pages of %d = %v", lines, got)
		}
	}
	for _, known := range invalidKnown() {
		if got := impl.PagesOf(list, 4, known); got != nil {
			t.Errorf("PagesOf with %v = %v", known[:min(len(known), 11)], got)
		}
	}
}

// Promise 82.
func TestP82PagesWithOneDigitNeedNoMoreLines(t *testing.T) {
	r := fixed()
	someBlocks(2000, func(list []impl.Block, lines int) {
		known := randomKnown(r)
		for _, b := range list {
			known[b.Refers] = r.Intn(10)
		}
		known[0] = []int{0, 5, 10, 10000}[r.Intn(4)] // is not printed
		before := 0
		for i, page := range impl.PagesOf(list, lines, known) {
			if page != 1+before/lines {
				t.Errorf("PagesOf %d of %v in pages of %d with %v = %d, want %d", i, list, lines, known, page, 1+before/lines)
			}
			before += list[i].Lines
		}
	})
}

// Promise 83.
func TestP83ResolvedPagesAreConsistent(t *testing.T) {
	most := 0
	someBlocks(3000, func(list []impl.Block, lines int) {
		pages, n, ok := impl.ResolvePages(list, lines)
		if !ok || !impl.CheckResolved(list, lines, pages) {
			t.Errorf("ResolvePages of %v in pages of %d = %v, %v, which is not accepted", list, lines, pages, ok)
		}
		want, rounds := knownPages(), 1
		for next := wantNew(list, lines, want); !slices.Equal(next, want); next = wantNew(list, lines, want) {
			want = next
			rounds++
		}
		if !slices.Equal(pages, want) || n != rounds {
			t.Errorf("ResolvePages of %v in pages of %d = %v, %d, want %v, %d", list, lines, pages, n, want, rounds)
		}
		most = max(most, n)
	})
	if most < 4 {
		t.Errorf("no pages needed more than %d rounds", most)
	}
}

func TestP83PagesOfTwoDigitsMoveOthers(t *testing.T) {
	for _, c := range []struct {
		list   []impl.Block
		lines  int
		want   []int
		rounds int
	}{
		{nil, 1, knownPages(), 1},
		{blocks(40, 0, 0, 40, 0, 9), 1, knownPages(), 1},
		{blocks(1, 3, 0), 40, knownPages(0, 0, 1), 2},
		{blocks(8, 0, 1, 1, 1, 0), 1, knownPages(9), 2},
		{blocks(9, 0, 1, 1, 1, 0), 1, knownPages(11), 3},
		{blocks(9, 0, 0, 1, 1, 1), 1, knownPages(10), 2},
		{blocks(3, 0, 1, 40, 0, 0, 1, 1, 0), 4, knownPages(12), 3},
		{blocks(2, 0, 1, 40, 0, 0, 1, 1, 0), 4, knownPages(11), 2}, // the line more is on the same page
		// The page of label 1 moves that of label 2 to two digits, and this moves both.
		{blocks(1, 0, 1, 1, 0, 2, 6, 0, 0, 1, 2, 0, 1, 1, 0), 1, knownPages(12, 11), 4},
		// References to a label that does not occur need no lines.
		{blocks(4, 0, 5, 4, 1, 5, 4, 2, 0), 4, knownPages(2, 3), 2},
		// Page 99 becomes page 100 by its second digit, and page 101 by its third one.
		{blocks(39, 0, 1, 40, 0, 0, 19, 0, 0, 1, 1, 0), 1, knownPages(101), 4},
		{blocks(40, 0, 1, 40, 0, 0, 19, 0, 0, 1, 1, 0), 1, knownPages(102), 3},
	} {
		pages, n, ok := impl.ResolvePages(c.list, c.lines)
		if !slices.Equal(pages, c.want) || n != c.rounds || !ok {
			t.Errorf("ResolvePages of %v in pages of %d = %v, %d, %v, want %v, %d", c.list, c.lines, pages, n, ok, c.want, c.rounds)
		}
		if !impl.CheckResolved(c.list, c.lines, c.want) {
			t.Errorf("CheckResolved of %v in pages of %d for %v fails", c.list, c.lines, c.want)
		}
	}
}

// Labels 1 to 8 are in the last lines of page 9, and label 9 is on page 10: one after the other moves the next one.
func TestP83OneRoundForEachLabel(t *testing.T) {
	list := blocks(40, 0, 1, 40, 0, 2, 40, 0, 3, 40, 0, 4, 40, 0, 5, 40, 0, 6, 40, 0, 7, 40, 0, 8, 32, 0, 9)
	list = append(list, blocks(1, 8, 0, 1, 7, 0, 1, 6, 0, 1, 5, 0, 1, 4, 0, 1, 3, 0, 1, 2, 0, 32, 1, 0, 1, 9, 0)...)
	want := knownPages(10, 10, 10, 10, 10, 10, 10, 10, 11)
	pages, n, ok := impl.ResolvePages(list, 40)
	if !slices.Equal(pages, want) || n != 11 || !ok {
		t.Errorf("ResolvePages = %v, %d, %v", pages, n, ok)
	}
}

func TestP83ResolvePagesFailsForInvalidArguments(t *testing.T) {
	for what, list := range invalidBlocks() {
		if pages, n, ok := impl.ResolvePages(list, 4); pages != nil || n != 0 || ok {
			t.Errorf("%s: ResolvePages = %v, %d, %v", what, pages, n, ok)
		}
	}
	for _, lines := range append([]int{39, 40, 41}, extremes...) {
		for _, list := range [][]impl.Block{nil, blocks(1, 1, 1)} {
			valid := lines >= 1 && lines <= 40
			if pages, n, ok := impl.ResolvePages(list, lines); ok != valid || !valid && (pages != nil || n != 0) {
				t.Errorf("ResolvePages in pages of %d = %v, %d, %v", lines, pages, n, ok)
			}
		}
	}
}

// Promise 84.
func TestP84ConsistentPagesAreThoseOfTheBlocks(t *testing.T) {
	r := fixed()
	accepted, not := 0, 0
	check := func(list []impl.Block, lines int, known []int) {
		got := impl.CheckResolved(list, lines, known)
		if want := slices.Equal(wantNew(list, lines, known), known); got != want {
			t.Errorf("CheckResolved of %v in pages of %d for %v = %v", list, lines, known, got)
		}
		if !got {
			not++
			return
		}
		accepted++
		pages := impl.PagesOf(list, lines, known)
		for i, b := range list {
			if b.Label != 0 && known[b.Label] != pages[i] {
				t.Errorf("CheckResolved of %v in pages of %d accepts %v, but the pages are %v", list, lines, known, pages)
			}
		}
	}
	someBlocks(2000, func(list []impl.Block, lines int) {
		known, _, _ := impl.ResolvePages(list, lines)
		check(list, lines, known)
		for label := range known {
			for _, change := range []int{-1, 1, 10, 100, 9000} {
				other := slices.Clone(known)
				if other[label] += change; other[label] >= 0 {
					check(list, lines, other)
				}
			}
		}
		check(list, lines, randomKnown(r))
	})
	if accepted < 1000 || not < 1000 {
		t.Errorf("%d pages of labels were accepted, and %d were not", accepted, not)
	}
}

func TestP84LabelsThatDoNotOccurHaveNoPage(t *testing.T) {
	list := blocks(4, 1, 2, 4, 3, 0)
	if !impl.CheckResolved(list, 4, knownPages(1, 0, 2)) {
		t.Error("CheckResolved fails")
	}
	zero := knownPages(1, 0, 2)
	zero[0] = 1
	for _, known := range [][]int{knownPages(), knownPages(1), knownPages(0, 0, 2), knownPages(2, 0, 2), knownPages(1, 0, 3), knownPages(1, 1, 2), knownPages(1, 2, 2), knownPages(1, 10, 2), knownPages(1, 0, 2, 1), knownPages(1, 0, 2, 0, 0, 0, 0, 0, 1), zero} {
		if impl.CheckResolved(list, 4, known) {
			t.Errorf("CheckResolved accepts %v", known)
		}
	}
	if !impl.CheckResolved(nil, 1, knownPages()) || impl.CheckResolved(nil, 1, knownPages(1)) {
		t.Error("CheckResolved without blocks")
	}
}

func TestP84CheckResolvedFailsForInvalidArguments(t *testing.T) {
	for what, list := range invalidBlocks() {
		for _, known := range [][]int{knownPages(), knownPages(1), knownPages(1, 2), nil} {
			if impl.CheckResolved(list, 40, known) {
				t.Errorf("%s: CheckResolved accepts %v", what, known)
			}
		}
	}
	for _, lines := range append([]int{39, 40, 41}, extremes...) {
		if got := impl.CheckResolved(nil, lines, knownPages()); got != (lines >= 1 && lines <= 40) {
			t.Errorf("CheckResolved in pages of %d = %v", lines, got)
		}
	}
	for _, known := range invalidKnown() {
		if impl.CheckResolved(nil, 4, known) || impl.CheckResolved(blocks(1, 1, 0), 4, known) {
			t.Errorf("CheckResolved accepts %v", known[:min(len(known), 11)])
		}
	}
}

// Promise 85.
func TestP85ResolvedPagesAreTheLeast(t *testing.T) {
	several := 0
	check := func(list []impl.Block, lines int) {
		least, _, ok := impl.ResolvePages(list, lines)
		if !ok {
			t.Errorf("ResolvePages of %v in pages of %d fails", list, lines)
			return
		}
		n := 0
		seen := map[string]bool{}
		allConsistent(list, lines, func(known []int) {
			if !impl.CheckResolved(list, lines, known) {
				t.Errorf("CheckResolved of %v in pages of %d does not accept %v", list, lines, known)
			}
			for label := range known {
				if least[label] > known[label] {
					t.Errorf("ResolvePages of %v in pages of %d = %v, but %v is accepted", list, lines, least, known)
				}
			}
			if key := fmt.Sprint(known); !seen[key] {
				seen[key] = true
				n++
			}
		})
		if n == 0 {
			t.Errorf("%v in pages of %d has no consistent pages", list, lines)
		}
		if n > 1 {
			several++
		}
	}
	r := fixed()
	for range 3000 {
		// Labels behind references to them, close to the first page with two digits.
		lines := 1 + r.Intn(2)
		list := blocks(1, 0, 1+r.Intn(3), 1+r.Intn(3), 0, 1+r.Intn(3), lines*(4+r.Intn(5)), r.Intn(2)*4, 1+r.Intn(4), 1, 1, 0, 1+r.Intn(2), 2, 3, 1, 3, 0)
		check(list, lines)
	}
	if several < 300 {
		t.Errorf("only %d documents have several consistent pages", several)
	}
	// Label 1 is on page 9 if it needs one digit, and on page 10 if it needs two.
	list := blocks(8, 0, 1, 1, 1, 0)
	check(list, 1)
	if !impl.CheckResolved(list, 1, knownPages(9)) || !impl.CheckResolved(list, 1, knownPages(10)) {
		t.Error("both pages of the label are consistent")
	}
	if pages, _, _ := impl.ResolvePages(list, 1); !slices.Equal(pages, knownPages(9)) {
		t.Errorf("ResolvePages = %v", pages)
	}
}

func TestBlocksAreNotChangedOrShared(t *testing.T) {
	list, known := blocks(3, 0, 1, 40, 2, 0, 1, 1, 2), knownPages(12, 2)
	kept := slices.Clone(list)
	for range 2 {
		pages := impl.PagesOf(list, 4, known)
		equalInts(t, "PagesOf", pages, 1, 2, 12)
		clear(pages[:cap(pages)])
		resolved, _, _ := impl.ResolvePages(list, 4)
		equalInts(t, "ResolvePages", resolved, knownPages(12, 2)...)
		clear(resolved[:cap(resolved)])
		impl.CheckResolved(list, 4, known)
	}
	equalInts(t, "the pages of labels", known, knownPages(12, 2)...)
	if !slices.Equal(list, kept) {
		t.Errorf("the blocks became %v", list)
	}
}
