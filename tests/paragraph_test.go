package tests

import (
	"cmp"
	"slices"
	"strconv"
	"testing"

	"loop.example/typesetting/impl"
)

// This file has paragraphs for the tests of chapters 4 to 9, and a model of
// chapters 4 to 6: each definition of the document, followed word by word.

// box returns a box.
func box(width int) impl.Item {
	return impl.Item{Kind: impl.BoxItem, Size: impl.Glue{Width: width}}
}

// glue returns glue.
func glue(width, stretch, shrink int) impl.Item {
	return impl.Item{Kind: impl.GlueItem, Size: impl.Glue{Width: width, Stretch: stretch, Shrink: shrink}}
}

// penalty returns a penalty that is not flagged.
func penalty(width, value int) impl.Item {
	return impl.Item{Kind: impl.PenaltyItem, Size: impl.Glue{Width: width}, Penalty: value}
}

// hyphen returns a flagged penalty.
func hyphen(width, value int) impl.Item {
	x := penalty(width, value)
	x.Flagged = true
	return x
}

// stop returns a forced break.
func stop() impl.Item {
	return penalty(0, -impl.MaxPenalty)
}

// penalties are those of random paragraphs.
var penalties = []int{-1000, -999, -50, -3, -1, 0, 0, 0, 1, 3, 50, 999, 1000}

// randomItem returns a small item of any kind.
func randomItem(r randomSource) impl.Item {
	switch r.Intn(5) {
	case 0, 1:
		return box(r.Intn(8))
	case 2, 3:
		width := r.Intn(5)
		return glue(width, r.Intn(5), r.Intn(width+1))
	}
	x := penalty(r.Intn(4), penalties[r.Intn(len(penalties))])
	x.Flagged = r.Intn(2) == 0
	return x
}

// randomSource is what the paragraphs need of a source of numbers.
type randomSource interface{ Intn(n int) int }

// randomParagraph returns a paragraph of up to n small items, mixed as they come.
func randomParagraph(r randomSource, n int) []impl.Item {
	var list []impl.Item
	for range r.Intn(n) {
		list = append(list, randomItem(r))
	}
	last := stop()
	last.Size.Width, last.Flagged = r.Intn(3), r.Intn(2) == 0
	return append(list, last)
}

// randomWords returns a paragraph of up to n words with hyphens, in which many
// lines are equally good, and at times forced breaks.
func randomWords(r randomSource, n int) []impl.Item {
	list := []impl.Item{box(1 + r.Intn(3))}
	for range r.Intn(n) {
		switch r.Intn(6) {
		case 0, 1, 2:
			list = append(list, glue(2, 2, 1))
		case 3, 4:
			list = append(list, hyphen(1, []int{0, 3, 50}[r.Intn(3)]))
		case 5:
			list = append(list, penalty(0, penalties[r.Intn(len(penalties))]))
		}
		list = append(list, box(1+r.Intn(3)))
	}
	return append(list, penalty(0, 1000), glue(0, 1000, 0), stop())
}

// wideParagraph returns a paragraph whose lines may be longer than MaxLength.
func wideParagraph(r randomSource) []impl.Item {
	var list []impl.Item
	for range 20 + r.Intn(10) {
		list = append(list, box(900+r.Intn(101)), glue(1000, r.Intn(1001), r.Intn(1001)))
	}
	return append(list, stop())
}

// someParagraphs returns paragraphs of all sorts.
func someParagraphs(n int) [][]impl.Item {
	r := fixed()
	list := [][]impl.Item{
		{stop()},
		{stop(), stop()},
		{hyphen(5, -1000)},
		{box(0), stop()},
		{glue(4, 2, 1), stop()},
		{penalty(3, 0), glue(4, 2, 1), box(6), stop()},
		{box(6), glue(4, 2, 1), glue(4, 2, 1), penalty(1, 1000), box(6), hyphen(2, 999), glue(4, 2, 1), box(1), stop()},
		{box(6), hyphen(2, 50), glue(4, 2, 1), penalty(1, 7), stop(), glue(4, 2, 1), box(6), glue(4, 2, 1), stop()},
	}
	for range n {
		list = append(list, randomParagraph(r, 10), randomWords(r, 7))
	}
	return list
}

// invalidParagraphs returns lists that are no paragraphs, by what is wrong.
func invalidParagraphs() map[string][]impl.Item {
	list := map[string][]impl.Item{
		"no items":               nil,
		"61 items":               append(slices.Repeat([]impl.Item{box(1)}, 60), stop()),
		"10001 items":            append(slices.Repeat([]impl.Item{box(1)}, 10000), stop()),
		"a box at the end":       {stop(), box(1)},
		"glue at the end":        {box(1), stop(), glue(1, 1, 1)},
		"no forced break":        {box(1), penalty(0, -999)},
		"a forbidden break last": {box(1), stop(), penalty(0, 1000)},
		"a zero item last":       {box(1), stop(), {}},
		"a box of penalty":       {box(1), {Kind: impl.BoxItem, Penalty: -1000}},
		"glue of penalty":        {box(1), {Kind: impl.GlueItem, Penalty: -1000}},
		"an invalid last item":   {box(1), penalty(-1, -1000)},
		"an invalid first item":  {box(-1), stop()},
	}
	for what, x := range invalidItems() {
		list[what] = []impl.Item{box(3), x, box(3), stop()}
	}
	return list
}

// invalidItems returns items that are not valid, by what is wrong.
func invalidItems() map[string]impl.Item {
	list := map[string]impl.Item{}
	change := func(what string, x impl.Item, by func(x *impl.Item)) {
		by(&x)
		list[what] = x
	}
	for _, n := range append([]int{-1001, -1000, -999, 999, 1000, 1001, 4, 3}, extremes...) {
		s := " " + strconv.Itoa(n)
		if n < 1 || n > 3 {
			change("kind"+s, impl.Item{}, func(x *impl.Item) { x.Kind = n })
			change("forced break of kind"+s, stop(), func(x *impl.Item) { x.Kind = n })
		}
		if n < 0 || n > impl.MaxBox {
			change("box of width"+s, box(1), func(x *impl.Item) { x.Size.Width = n })
			change("glue of width"+s, glue(1, 0, 0), func(x *impl.Item) { x.Size.Width = n })
			change("glue of width and shrink"+s, glue(1, 0, 0), func(x *impl.Item) { x.Size.Width, x.Size.Shrink = n, n })
			change("glue of stretch"+s, glue(1000, 0, 0), func(x *impl.Item) { x.Size.Stretch = n })
			change("glue of shrink"+s, glue(1000, 0, 0), func(x *impl.Item) { x.Size.Shrink = n })
			change("penalty of width"+s, penalty(1, 0), func(x *impl.Item) { x.Size.Width = n })
		}
		if n < -impl.MaxPenalty || n > impl.MaxPenalty {
			change("penalty"+s, penalty(1, 0), func(x *impl.Item) { x.Penalty = n })
		}
		if n != 0 {
			change("box with stretch"+s, box(1000), func(x *impl.Item) { x.Size.Stretch = n })
			change("box with shrink"+s, box(1000), func(x *impl.Item) { x.Size.Shrink = n })
			change("box with penalty"+s, box(1), func(x *impl.Item) { x.Penalty = n })
			change("glue with penalty"+s, glue(1, 1, 1), func(x *impl.Item) { x.Penalty = n })
			change("penalty with stretch"+s, penalty(1000, 0), func(x *impl.Item) { x.Size.Stretch = n })
			change("penalty with shrink"+s, penalty(1000, 0), func(x *impl.Item) { x.Size.Shrink = n })
		}
	}
	change("flagged box", box(1), func(x *impl.Item) { x.Flagged = true })
	change("flagged glue", glue(1, 1, 1), func(x *impl.Item) { x.Flagged = true })
	change("glue that shrinks by more than it is wide", glue(7, 8, 8), func(*impl.Item) {})
	change("glue of no width that shrinks", glue(0, 1, 1), func(*impl.Item) {})
	return list
}

// isForced reports whether an item is a forced break.
func isForced(x impl.Item) bool {
	return x.Kind == 3 && x.Penalty == -1000
}

// wantBreaks returns the breaks of a paragraph.
func wantBreaks(list []impl.Item) []int {
	var breaks []int
	for i, x := range list {
		if x.Kind == 2 && i > 0 && list[i-1].Kind == 1 || x.Kind == 3 && x.Penalty < 1000 {
			breaks = append(breaks, i)
		}
	}
	return breaks
}

// wantLine returns the items of a line, and whether it exists.
func wantLine(list []impl.Item, from, to int) ([]int, bool) {
	breaks := wantBreaks(list)
	if from != -1 && !slices.Contains(breaks, from) || !slices.Contains(breaks, to) || from >= to {
		return nil, false
	}
	var items []int
	for i := from + 1; i < to; i++ {
		if isForced(list[i]) {
			return nil, false
		}
		if list[i].Kind == 1 || len(items) > 0 {
			items = append(items, i)
		}
	}
	return items, true
}

// wantGlue returns the length of a line, and whether it exists.
func wantGlue(list []impl.Item, from, to int) (impl.Glue, bool) {
	items, ok := wantLine(list, from, to)
	if !ok {
		return impl.Glue{}, false
	}
	sum := impl.Glue{}
	for _, i := range items {
		if list[i].Kind != 3 {
			sum.Width += list[i].Size.Width
			sum.Stretch += list[i].Size.Stretch
			sum.Shrink += list[i].Size.Shrink
		}
	}
	if list[to].Kind == 3 {
		sum.Width += list[to].Size.Width
	}
	return sum, true
}

// wantFit returns how a line fits, and how bad that is.
func wantFit(list []impl.Item, from, to, width int) (int, int) {
	g, ok := wantGlue(list, from, to)
	if !ok || width < 1 || width > 10000 {
		return 0, -1
	}
	d := width - min(g.Width, 10000)
	switch {
	case d == 0:
		return 1, 0
	case d > 0:
		return 2, wantBadness(d, min(g.Stretch, 10000))
	case -d <= min(g.Shrink, 10000):
		return 3, wantBadness(-d, min(g.Shrink, 10000))
	}
	return 4, 10000
}

// wantCost returns the cost of a line, and whether it is possible.
func wantCost(list []impl.Item, from, to, width, tolerance int) (int, bool) {
	fit, bad := wantFit(list, from, to, width)
	if fit == 0 || fit == 4 || bad > tolerance || tolerance < 0 || tolerance > 10000 {
		return 0, false
	}
	cost := (1 + bad) * (1 + bad)
	switch p := list[to].Penalty; {
	case p > 0:
		cost = (1 + bad + p) * (1 + bad + p)
	case p < 0 && p > -1000:
		cost -= p * p
	}
	if list[to].Flagged && from >= 0 && list[from].Flagged {
		cost += 3000
	}
	return cost, true
}

// costOfLine gives the cost of line n, from 0 on, between two places.
type costOfLine func(n, from, to int) (int, bool)

// wantSum returns the sum of the costs of all lines, and whether they are possible.
func wantSum(list []impl.Item, breaks []int, cost costOfLine) (int, bool) {
	sum, from := 0, -1
	for n, to := range breaks {
		added, ok := cost(n, from, to)
		if !ok {
			return 0, false
		}
		sum += added
		from = to
	}
	return sum, from == len(list)-1
}

// allWays goes over all ways to choose breaks of a paragraph, the last of which is the last item.
func allWays(list []impl.Item, visit func(breaks []int)) {
	places := wantBreaks(list)
	last := len(places) - 1
	for mask := range 1 << last {
		var breaks []int
		for i, at := range places[:last] {
			if mask>>i&1 == 1 {
				breaks = append(breaks, at)
			}
		}
		visit(append(breaks, places[last]))
	}
}

// wantBest returns the best breaks by trying all of them. With counted, the number of lines decides before the places.
func wantBest(list []impl.Item, cost costOfLine, counted bool) ([]int, int, bool) {
	var best []int
	least := 0
	allWays(list, func(breaks []int) {
		sum, ok := wantSum(list, breaks, cost)
		if !ok {
			return
		}
		order := cmp.Compare(sum, least)
		if order == 0 && counted {
			order = cmp.Compare(len(breaks), len(best))
		}
		if order == 0 {
			order = slices.Compare(beginnings(breaks), beginnings(best))
		}
		if best == nil || order < 0 {
			best, least = slices.Clone(breaks), sum
		}
	})
	return best, least, best != nil
}

// beginnings returns the places behind which lines begin, those of the last lines first.
func beginnings(breaks []int) []int {
	list := append([]int{-1}, breaks[:len(breaks)-1]...)
	slices.Reverse(list)
	return list
}

// eachPair goes over all places between which there may be a line, and some between which there is none.
func eachPair(list []impl.Item, visit func(from, to int)) {
	for from := -2; from <= len(list); from++ {
		for to := -2; to <= len(list); to++ {
			visit(from, to)
		}
	}
	for _, n := range extremes {
		visit(n, len(list)-1)
		visit(-1, n)
		visit(n, n)
		visit(n, -n)
	}
}

// equalBreaks reports an error if breaks and their cost are not as expected.
func equalBreaks(t *testing.T, what string, list []impl.Item, got []int, cost int, ok bool, want []int, least int, possible bool) {
	t.Helper()
	if !slices.Equal(got, want) || cost != least || ok != possible {
		t.Errorf("%s of %v = %v, %d, %v, want %v, %d, %v", what, list, got, cost, ok, want, least, possible)
	}
}
