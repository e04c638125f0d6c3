package tests

import (
	"fmt"
	"math"
	"slices"
	"testing"

	"loop.example/typesetting/impl"
)

// changedItem returns an item that differs from another one in one field only, and is valid again.
func changedItem(r randomSource, x impl.Item) impl.Item {
	step := func(n, low, high int) int {
		if n == low || n < high && r.Intn(2) == 0 {
			return n + 1
		}
		return n - 1
	}
	switch {
	case x.Kind == impl.GlueItem && r.Intn(2) == 0:
		x.Size.Stretch = step(x.Size.Stretch, 0, impl.MaxBox)
	case x.Kind == impl.GlueItem && x.Size.Width > 0:
		x.Size.Shrink = step(x.Size.Shrink, 0, x.Size.Width)
	case x.Kind == impl.PenaltyItem && r.Intn(2) == 0:
		x.Flagged = !x.Flagged
	case x.Kind == impl.PenaltyItem && x.Penalty != -impl.MaxPenalty && r.Intn(2) == 0:
		x.Penalty = step(x.Penalty, -impl.MaxPenalty+1, impl.MaxPenalty)
	default:
		x.Size.Width = step(x.Size.Width, 0, impl.MaxBox)
	}
	if x.Kind == impl.GlueItem {
		x.Size.Shrink = min(x.Size.Shrink, x.Size.Width)
	}
	return x
}

// changedParagraph returns a paragraph with a change, or with none.
func changedParagraph(r randomSource, list []impl.Item) []impl.Item {
	i := r.Intn(len(list))
	switch r.Intn(8) {
	case 0:
		return slices.Clone(list)
	case 1:
		return slices.Insert(slices.Clone(list), i, randomItem(r))
	case 2:
		return append(slices.Clone(list), stop())
	case 3:
		if i < len(list)-1 {
			return slices.Delete(slices.Clone(list), i, i+1)
		}
	case 4:
		return append(slices.Clone(list[:i]), stop())
	}
	list = slices.Clone(list)
	list[i] = changedItem(r, list[i])
	return list
}

// somePairs goes over pairs of paragraphs, most of which begin alike.
func somePairs(n int, visit func(a, b []impl.Item)) {
	r := fixed()
	for _, a := range someParagraphs(n) {
		b := changedParagraph(r, a)
		visit(a, b)
		visit(a, changedParagraph(r, b))
		visit(a, randomParagraph(r, 5))
	}
	full := append(slices.Repeat([]impl.Item{box(1000), glue(1000, 1000, 1000)}, 29), penalty(1000, 1000), stop())
	visit(full, full)
	visit(full, full[59:])
	visit([]impl.Item{stop()}, []impl.Item{stop(), stop()})
}

// wantCommon counts the elements before the first one that differs.
func wantCommon[E comparable](a, b []E) int {
	for i, x := range a {
		if i == len(b) || x != b[i] {
			return i
		}
	}
	return len(a)
}

// Promise 112.
func TestP112CommonItemsAreEqual(t *testing.T) {
	inside := 0
	somePairs(1500, func(a, b []impl.Item) {
		n, back, self := impl.CommonItems(a, b), impl.CommonItems(b, a), impl.CommonItems(a, a)
		if want := wantCommon(a, b); n != want || back != want || self != len(a) {
			t.Fatalf("CommonItems of %v and %v = %d, %d in the other order, want %d, and %d with itself", a, b, n, back, want, self)
		}
		if !slices.Equal(a[:n], b[:n]) || n < len(a) && n < len(b) && a[n] == b[n] {
			t.Fatalf("CommonItems of %v and %v = %d", a, b, n)
		}
		if n > 0 && n < len(a) && n < len(b) {
			inside++
		}
	})
	if inside < 1000 {
		t.Errorf("only %d pairs differ behind common items", inside)
	}
}

func TestP112ItemsDifferInEachField(t *testing.T) {
	r := fixed()
	for _, x := range []impl.Item{box(0), box(5), box(1000), glue(0, 0, 0), glue(5, 5, 5), glue(5, 0, 0), glue(1000, 1000, 1000), penalty(0, 0), penalty(5, 999), hyphen(5, -999), hyphen(0, 1000)} {
		a := []impl.Item{box(1), x, box(1), stop()}
		for range 20 {
			b := []impl.Item{box(1), changedItem(r, x), box(1), stop()}
			if n := impl.CommonItems(a, b); n != 1 {
				t.Errorf("CommonItems of %v and %v = %d", a, b, n)
			}
		}
		if n := impl.CommonItems(a, []impl.Item{box(1), stop(), box(1), stop()}); n != 1 {
			t.Errorf("CommonItems of %v and others = %d", a, n)
		}
	}
	if n := impl.CommonItems([]impl.Item{box(0), stop()}, []impl.Item{glue(0, 0, 0), stop()}); n != 0 {
		t.Errorf("CommonItems of a box and glue = %d", n)
	}
	if n := impl.CommonItems([]impl.Item{hyphen(0, -1000)}, []impl.Item{stop()}); n != 0 {
		t.Errorf("CommonItems of different last items = %d", n)
	}
}

func TestP112CommonItemsFailsForInvalidArguments(t *testing.T) {
	for what, list := range invalidParagraphs() {
		for _, pair := range [][2][]impl.Item{{list, {stop()}}, {{stop()}, list}, {list, list}, {{box(3), stop()}, list}} {
			if n := impl.CommonItems(pair[0], pair[1]); n != -1 {
				t.Errorf("%s: CommonItems = %d", what, n)
			}
		}
	}
}

// Promise 113.
func TestP113KeptLinesAreCommon(t *testing.T) {
	check := func(a, b []int) {
		n, back := impl.KeptLines(a, b), impl.KeptLines(b, a)
		if want := wantCommon(a, b); n != want || back != want {
			t.Errorf("KeptLines(%.80v, %.80v) = %d, %d in the other order, want %d", fmt.Sprint(a), fmt.Sprint(b), n, back, want)
			return
		}
		if !slices.Equal(a[:n], b[:n]) || n < len(a) && n < len(b) && a[n] == b[n] {
			t.Errorf("KeptLines(%v, %v) = %d, which is not the last common one", a, b, n)
		}
	}
	var lists [][]int
	allLevels(4, -1, 1, func(list []int) { lists = append(lists, list) })
	// They need not be breaks, nor few.
	lists = append(lists, nil, []int{}, extremes, extremes[1:], ascending(10000), append(ascending(10000), 0), append(ascending(9999), -1), slices.Repeat([]int{math.MinInt}, 10000))
	for _, a := range lists {
		for _, b := range lists {
			check(a, b)
		}
	}
	if n := impl.KeptLines([]int{3, 7, 9}, []int{3, 7, 11}); n != 2 {
		t.Errorf("KeptLines = %d", n)
	}
	if n := impl.KeptLines([]int{1, 2, 3, 9}, []int{1, 5, 3, 9}); n != 1 {
		t.Errorf("KeptLines of lists that are equal again = %d", n)
	}
}

// wantReplaced returns the items before, the new ones and those behind, if they are a paragraph.
func wantReplaced(list []impl.Item, from, to int, by []impl.Item) []impl.Item {
	if from < 0 || from > to || to > len(list) || len(by) > 60 {
		return nil
	}
	var all []impl.Item
	for i := 0; i <= len(list); i++ {
		if i == from {
			all = append(all, by...)
		}
		if i < len(list) && (i < from || i >= to) {
			all = append(all, list[i])
		}
	}
	if len(all) == 0 || len(all) > 60 || !isForced(all[len(all)-1]) {
		return nil
	}
	return all
}

// checkReplaced checks the result of ReplaceItems for valid paragraphs and items, and returns it.
func checkReplaced(t *testing.T, list []impl.Item, from, to int, by []impl.Item) []impl.Item {
	t.Helper()
	got, ok := impl.ReplaceItems(list, from, to, by)
	want := wantReplaced(list, from, to, by)
	if ok != (want != nil) || !slices.Equal(got, want) || !ok && got != nil {
		t.Fatalf("ReplaceItems(%v, %d, %d, %v) = %v, %v, want %v", list, from, to, by, got, ok, want)
	}
	return got
}

// someReplaced goes over valid paragraphs, places in them, and valid items.
func someReplaced(n int, visit func(list []impl.Item, from, to int, by []impl.Item)) {
	r := fixed()
	for _, list := range someParagraphs(n) {
		for range 5 {
			var by []impl.Item
			for range r.Intn(4) {
				by = append(by, randomItem(r))
			}
			if r.Intn(3) == 0 {
				by = append(by, stop())
			}
			from := r.Intn(len(list) + 1)
			visit(list, from, from+r.Intn(len(list)-from+1), by)
		}
	}
}

// Promise 114.
func TestP114ReplacedParagraphsKeepTheRest(t *testing.T) {
	replaced, fails := 0, 0
	someReplaced(1500, func(list []impl.Item, from, to int, by []impl.Item) {
		got := checkReplaced(t, list, from, to, by)
		if got == nil {
			fails++
			return
		}
		replaced++
		behind := from + len(by)
		if !impl.ValidItems(got) || !slices.Equal(got[:from], list[:from]) || !slices.Equal(got[from:behind], by) || !slices.Equal(got[behind:], list[to:]) {
			t.Errorf("ReplaceItems(%v, %d, %d, %v) = %v", list, from, to, by, got)
		}
	})
	if replaced < 5000 || fails < 1000 {
		t.Errorf("items were replaced %d times, and %d times not", replaced, fails)
	}
}

func TestP114ItemsAreReplacedUpToTheLimits(t *testing.T) {
	two, boxes := []impl.Item{box(3), stop()}, slices.Repeat([]impl.Item{box(1)}, 61)
	full := append(slices.Clone(boxes[:59]), stop())
	for _, c := range []struct {
		list     []impl.Item
		from, to int
		by       []impl.Item
		length   int // 0 if it fails
	}{
		{two, 0, 0, nil, 2}, {two, 1, 1, nil, 2}, {two, 2, 2, nil, 2}, {two, 0, 1, nil, 1},
		{two, 1, 2, nil, 0}, {two, 0, 2, nil, 0}, // the last item is missing
		{two, 2, 2, boxes[:1], 0}, {two, 2, 2, two, 4}, {two, 0, 2, two[1:], 1}, {two, 1, 2, two, 3}, {two, 1, 2, two[1:], 2},
		{two, 0, 0, boxes[:58], 60}, {two, 0, 0, boxes[:59], 0}, {two, 0, 1, boxes[:59], 60}, {two, 0, 1, boxes[:60], 0}, {two, 1, 1, boxes[:58], 60}, {two, 1, 1, boxes[:59], 0},
		{two, 0, 2, full, 60}, {two, 2, 2, full[2:], 60}, {two, 2, 2, full[1:], 0},
		{full, 0, 60, full, 60}, {full, 0, 60, two, 2}, {full, 0, 0, boxes[:1], 0}, {full, 0, 1, boxes[:1], 60}, {full, 0, 1, boxes[:2], 0}, {full, 59, 60, two, 0}, {full, 58, 60, two, 60},
		{full, 0, 59, boxes[:59], 60}, {full, 0, 59, boxes[:60], 0}, {full, 60, 60, nil, 60}, {full, 60, 60, two[1:], 0},
	} {
		if got := checkReplaced(t, c.list, c.from, c.to, c.by); len(got) != c.length {
			t.Errorf("ReplaceItems of %d items from %d to %d by %d has %d items, want %d", len(c.list), c.from, c.to, len(c.by), len(got), c.length)
		}
	}
}

func TestP114ReplaceItemsFailsForInvalidArguments(t *testing.T) {
	check := func(what string, list []impl.Item, from, to int, by []impl.Item) {
		if got, ok := impl.ReplaceItems(list, from, to, by); ok || got != nil {
			t.Errorf("%s: ReplaceItems of %d items from %d to %d by %d = %v", what, len(list), from, to, len(by), got)
		}
	}
	for what, list := range invalidParagraphs() {
		check(what, list, 0, 0, nil)
		check(what, list, len(list), len(list), []impl.Item{stop()})
		// The result would be valid, but the paragraph is not.
		check(what, list, 0, len(list), []impl.Item{stop()})
		check(what, []impl.Item{stop()}, 0, 1, list)
	}
	for what, x := range invalidItems() {
		check(what, []impl.Item{box(1), stop()}, 0, 1, []impl.Item{x})
		check(what, []impl.Item{box(1), stop()}, 1, 1, []impl.Item{box(1), x, box(1)})
		check(what, []impl.Item{box(1), x, stop()}, 1, 2, []impl.Item{box(1)})
		check(what, []impl.Item{box(1), x, stop()}, 1, 2, nil)
	}
	list := []impl.Item{box(1), glue(1, 1, 1), box(1), stop()}
	for _, n := range append([]int{3, 4, 5}, extremes...) {
		check("the places", list, n, n-1, nil)
		check("the places", list, n, -1, nil)
		check("the places", list, 5, n, nil)
		if n < 0 || n > 4 {
			check("the places", list, n, n, nil)
			check("the places", list, n, 4, []impl.Item{stop()})
			check("the places", list, 0, n, []impl.Item{stop()})
		}
		if n > 0 && n <= 4 {
			check("the places", list, n, 0, nil)
		}
	}
	// More than MaxItems others are too many, wherever they are.
	many := slices.Repeat([]impl.Item{stop()}, 10000)
	for _, n := range []int{61, 62, 10000} {
		check("too many others", []impl.Item{stop()}, 0, 1, many[:n])
		check("too many others", list, 0, 4, many[:n])
		check("too many others", list, 2, 2, many[:n])
	}
}

// Promise 115.
func TestP115ReplacingCanBeUndone(t *testing.T) {
	undone := 0
	someReplaced(1500, func(list []impl.Item, from, to int, by []impl.Item) {
		got, ok := impl.ReplaceItems(list, from, to, by)
		if !ok {
			return
		}
		undone++
		if back, ok := impl.ReplaceItems(got, from, from+len(by), list[from:to]); !ok || !slices.Equal(back, list) {
			t.Errorf("ReplaceItems(%v, %d, %d, %v) = %v, and back %v, %v", list, from, to, by, got, back, ok)
		}
	})
	if undone < 5000 {
		t.Errorf("only %d times items were replaced", undone)
	}
}

// wantFirstChange tries all numbers of lines.
func wantFirstChange(a, b []impl.Item, width int) int {
	one, two := wantFirstFit(a, width), wantFirstFit(b, width)
	most := 0
	for n := range min(len(one), len(two)) + 1 {
		same := slices.Equal(one[:n], two[:n])
		for _, i := range one[:n] {
			same = same && i < wantCommon(a, b)
		}
		if same {
			most = n
		}
	}
	return most
}

// Promise 116.
func TestP116LinesBeforeTheFirstChangeAreEqual(t *testing.T) {
	r := fixed()
	between := 0
	somePairs(1500, func(a, b []impl.Item) {
		width, _ := widthAndTolerance(r)
		n, back := impl.FirstChange(a, b, width), impl.FirstChange(b, a, width)
		if want := wantFirstChange(a, b, width); n != want || back != want {
			t.Fatalf("FirstChange of %v and %v for %d = %d, %d in the other order, want %d", a, b, width, n, back, want)
		}
		one, two := impl.FirstFit(a, width), impl.FirstFit(b, width)
		if !slices.Equal(one[:n], two[:n]) {
			t.Errorf("FirstChange of %v and %v for %d = %d, but the breaks are %v and %v", a, b, width, n, one, two)
		}
		if self := impl.FirstChange(a, slices.Clone(a), width); self != len(one) {
			t.Errorf("FirstChange of %v and itself for %d = %d, want %d", a, width, self, len(one))
		}
		if n > 0 && n < len(one) && n < len(two) {
			between++
		}
	})
	if between < 200 {
		t.Errorf("only %d pairs differ behind a line", between)
	}
}

func TestP116FirstChangeFailsForInvalidArguments(t *testing.T) {
	for what, list := range invalidParagraphs() {
		for _, pair := range [][2][]impl.Item{{list, {stop()}}, {{stop()}, list}, {list, list}} {
			for _, width := range []int{0, 10} {
				if n := impl.FirstChange(pair[0], pair[1], width); n != -1 {
					t.Errorf("%s: FirstChange for the width %d = %d", what, width, n)
				}
			}
		}
	}
	for _, width := range extremes {
		want := -1
		if width >= 1 && width <= 10000 {
			want = 1
		}
		if n := impl.FirstChange([]impl.Item{stop()}, []impl.Item{stop()}, width); n != want {
			t.Errorf("FirstChange for the width %d = %d, want %d", width, n, want)
		}
		if n := impl.FirstChange([]impl.Item{stop()}, []impl.Item{box(1), stop()}, width); n != min(want, 0) {
			t.Errorf("FirstChange of different paragraphs for the width %d = %d", width, n)
		}
	}
}

// Promise 117.
func TestP117LinesBeforeTheFirstChangeHaveCommonItems(t *testing.T) {
	r := fixed()
	behind := 0
	somePairs(1500, func(a, b []impl.Item) {
		width, _ := widthAndTolerance(r)
		n, common := impl.FirstChange(a, b, width), impl.CommonItems(a, b)
		one, two := impl.FirstFit(a, width), impl.FirstFit(b, width)
		for _, i := range one[:n] {
			if i >= common {
				t.Errorf("FirstChange of %v and %v for %d = %d, but item %d is not common", a, b, width, n, i)
			}
		}
		if kept := impl.KeptLines(one, two); kept > n {
			behind++
			if one[n] < common {
				t.Errorf("FirstChange of %v and %v for %d = %d, but item %d is common", a, b, width, n, one[n])
			}
		}
	})
	if behind < 200 {
		t.Errorf("only %d pairs have equal breaks behind the first change", behind)
	}
}

func TestP117ChangesInsideAndBehindLines(t *testing.T) {
	five := []impl.Item{box(6), glue(4, 2, 1), box(6), glue(4, 2, 1), box(6), glue(4, 2, 1), box(6), glue(4, 2, 1), box(6), stop()}
	with := func(i int, by ...impl.Item) []impl.Item {
		return slices.Concat(five[:i], by, five[i+1:])
	}
	for _, c := range []struct {
		what string
		b    []impl.Item
		want int
	}{
		{"nothing", five, 3},
		{"the last word is longer, which needs another line", with(8, box(2), glue(4, 2, 1), box(12)), 2},
		{"the last word is longer", with(8, box(2), glue(4, 2, 1), box(2)), 2},
		{"the last word is shorter, and ends as the old one", with(8, box(5)), 2},
		{"the last item", with(9, hyphen(0, -1000)), 2},
		{"the break of the second line", with(7, glue(4, 2, 2)), 1},
		{"the break of the second line is a penalty", with(7, penalty(0, 0)), 1},
		{"the item before it", with(6, box(5)), 1},
		{"the item behind the first break", with(4, box(5)), 1},
		{"the break of the first line", with(3, glue(4, 3, 1)), 0},
		{"the first item, and no break", with(0, box(5)), 0},
		{"the first item, and each break", with(0, box(17)), 0},
		{"an item more at the end", append(slices.Clone(five), stop()), 3},
		{"an item less before the end", with(8), 2},
		{"the second line has room for a third word", with(6, box(0), glue(0, 0, 0), box(6)), 1},
	} {
		if n := impl.FirstChange(five, c.b, 16); n != c.want {
			t.Errorf("%s: FirstChange = %d, want %d", c.what, n, c.want)
		}
		if n := impl.FirstChange(c.b, five, 16); n != c.want {
			t.Errorf("%s: FirstChange in the other order = %d, want %d", c.what, n, c.want)
		}
	}
	// What follows a common break may change the line before it: a hyphen that is too wide is passed only if the rest fits.
	a := []impl.Item{box(3), glue(1, 1, 1), box(3), hyphen(9, 0), box(2), stop()}
	b := []impl.Item{box(3), glue(1, 1, 1), box(3), hyphen(9, 0), box(9), stop()}
	if n := impl.FirstChange(a, b, 10); n != 0 || impl.CommonItems(a, b) != 4 {
		t.Errorf("FirstChange of a paragraph with a wide hyphen = %d", n)
	}
}

func TestReflownItemsAreNotChangedOrShared(t *testing.T) {
	items := []impl.Item{box(6), glue(4, 2, 1), box(6), stop(), box(9)}
	list, kept := items[:4], slices.Clone(items)
	others := []impl.Item{box(1), glue(1, 1, 1), box(2)}
	by, keptBy := others[:2], slices.Clone(others)
	a, b := []int{1, 2, 3}, []int{1, 2, 4}
	for range 2 {
		for from := range 4 {
			for to := from; to < 4; to++ {
				got, ok := impl.ReplaceItems(list, from, to, by)
				if !ok || !slices.Equal(got, wantReplaced(list, from, to, by)) {
					t.Errorf("ReplaceItems from %d to %d = %v, %v", from, to, got, ok)
				}
				clear(got[:cap(got)])
				got, ok = impl.ReplaceItems(list, from, to, nil)
				if !ok || !slices.Equal(got, wantReplaced(list, from, to, nil)) {
					t.Errorf("ReplaceItems from %d to %d by nothing = %v, %v", from, to, got, ok)
				}
				clear(got[:cap(got)])
			}
		}
		impl.CommonItems(list, by)
		impl.FirstChange(list, list, 10)
		impl.KeptLines(a, b)
	}
	if !slices.Equal(items, kept) || !slices.Equal(others, keptBy) {
		t.Errorf("the items became %v and %v", items, others)
	}
	equalInts(t, "the first list", a, 1, 2, 3)
	equalInts(t, "the second list", b, 1, 2, 4)
}
