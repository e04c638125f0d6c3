package tests

import (
	"slices"
	"testing"

	"loop.example/typesetting/impl"
)

// wantSet returns the positions of the boxes of a line and its length, and whether it exists.
func wantSet(list []impl.Item, from, to, width int) ([]int, bool) {
	items, ok := wantLine(list, from, to)
	if !ok || width < 1 || width > 10000 {
		return nil, false
	}
	line, _ := wantGlue(list, from, to)
	before := impl.Glue{}
	place := func() int {
		d := width - line.Width
		switch {
		case d > 0 && line.Stretch > 0:
			return before.Width + d*before.Stretch/line.Stretch
		case d < 0 && line.Shrink > 0:
			return before.Width - min(-d, line.Shrink)*before.Shrink/line.Shrink
		}
		return before.Width
	}
	var positions []int
	for _, i := range items {
		switch list[i].Kind {
		case 1:
			positions = append(positions, place())
			before.Width += list[i].Size.Width
		case 2:
			before.Width += list[i].Size.Width
			before.Stretch += list[i].Size.Stretch
			before.Shrink += list[i].Size.Shrink
		}
	}
	if list[to].Kind == 3 {
		before.Width += list[to].Size.Width
	}
	return append(positions, place()), true
}

// Promise 32.
func TestP32SetLinesHaveTheirWidth(t *testing.T) {
	stretched, shrunk := 0, 0
	for _, list := range someParagraphs(150) {
		eachPair(list, func(from, to int) {
			for _, width := range someWidths {
				positions := impl.SetLine(list, from, to, width)
				want, ok := wantSet(list, from, to, width)
				if !slices.Equal(positions, want) || ok != (positions != nil) {
					t.Errorf("SetLine of %v from %d to %d for %d = %v, want %v", list, from, to, width, positions, want)
				}
				if !ok {
					continue
				}
				if !slices.IsSorted(positions) {
					t.Errorf("SetLine of %v from %d to %d for %d = %v", list, from, to, width, positions)
				}
				g, _ := impl.LineGlue(list, from, to)
				fit, _ := impl.FitLine(list, from, to, width)
				if fit == impl.Overfull || fit == impl.Loose && g.Stretch == 0 {
					continue
				}
				if length := positions[len(positions)-1]; length != width {
					t.Errorf("SetLine of %v from %d to %d for %d has the length %d", list, from, to, width, length)
				}
				if fit == impl.Loose {
					stretched++
				} else if fit == impl.Tight {
					shrunk++
				}
			}
		})
	}
	if stretched < 1000 || shrunk < 500 {
		t.Errorf("only %d lines were stretched, and %d shrunk", stretched, shrunk)
	}
}

func TestP32PositionsAreRoundedDown(t *testing.T) {
	list := []impl.Item{
		glue(9, 9, 9), penalty(9, 9), box(6), glue(4, 1, 1), box(0), glue(4, 2, 4), glue(4, 4, 2), box(5), penalty(3, 1000), hyphen(3, 7), glue(2, 0, 0), box(1),
		hyphen(2, -50), glue(5, 5, 5), box(1), stop(), glue(5, 5, 5), hyphen(3, -1000), glue(5, 5, 5), stop(), glue(3, 3, 3), box(2), penalty(1, 0), glue(6, 0, 0), box(2), stop(),
	}
	for _, c := range []struct {
		from, to, width int
		want            []int
	}{
		// The line from -1 to 12 has the Width 28, the Stretch 7 and the Shrink 7.
		{-1, 12, 28, []int{0, 10, 18, 25, 28}},
		{-1, 12, 29, []int{0, 10, 19, 26, 29}},
		{-1, 12, 31, []int{0, 10, 21, 28, 31}},
		{-1, 12, 35, []int{0, 11, 25, 32, 35}},
		{-1, 12, 28 + 700, []int{0, 110, 718, 725, 728}},
		{-1, 12, 27, []int{0, 10, 17, 24, 27}},
		{-1, 12, 25, []int{0, 10, 15, 22, 25}},
		{-1, 12, 21, []int{0, 9, 11, 18, 21}},
		{-1, 12, 20, []int{0, 9, 11, 18, 21}},
		{-1, 12, 1, []int{0, 9, 11, 18, 21}},
		// The line from 3 to 9 has the Width 16, the Stretch 6 and the Shrink 6.
		{3, 9, 16, []int{0, 8, 16}},
		{3, 9, 13, []int{0, 5, 13}},
		{3, 9, 10, []int{0, 2, 10}},
		{3, 9, 1, []int{0, 2, 10}},
		// Without stretching or shrinking, nothing moves.
		{3, 5, 0, nil},
		{3, 5, 8, []int{0, 0}},
		{9, 12, 2, []int{0, 3}},
		{9, 12, 9, []int{0, 3}},
		{12, 15, 9, []int{0, 1}},
		{19, 22, 9, []int{0, 3}},
		{19, 22, 1, []int{0, 3}},
		{19, 25, 12, []int{0, 8, 10}},
		// Lines without boxes have only a length.
		{15, 17, 1, []int{3}},
		{15, 17, 9, []int{3}},
		{17, 19, 9, []int{0}},
	} {
		if got := impl.SetLine(list, c.from, c.to, c.width); !slices.Equal(got, c.want) {
			t.Errorf("SetLine from %d to %d for %d = %v, want %v", c.from, c.to, c.width, got, c.want)
		}
	}
}

func TestP32SetLineFailsForInvalidArguments(t *testing.T) {
	for what, list := range invalidParagraphs() {
		if got := impl.SetLine(list, -1, len(list)-1, 10); got != nil {
			t.Errorf("%s: SetLine = %v", what, got)
		}
	}
	list := []impl.Item{box(10), glue(4, 2, 1), box(10), stop()}
	for _, width := range extremes {
		if got := impl.SetLine(list, -1, 3, width); (got == nil) == (width >= 1 && width <= 10000) {
			t.Errorf("SetLine for the width %d = %v", width, got)
		}
	}
}

// Promise 33.
func TestP33BoxesDoNotOverlap(t *testing.T) {
	r := fixed()
	lists := someParagraphs(300)
	for range 100 {
		lists = append(lists, wideParagraph(r))
	}
	pairs := 0
	for _, list := range lists {
		breaks := append([]int{-1}, impl.BreaksOf(list)...)
		for range 50 {
			from, to := breaks[r.Intn(len(breaks))], breaks[r.Intn(len(breaks))]
			positions, boxes := impl.SetLine(list, from, to, 1+r.Intn(40)), impl.BoxesOf(list, from, to)
			if len(positions) == 0 {
				continue
			}
			if len(positions) != len(boxes)+1 {
				t.Errorf("SetLine of %v from %d to %d = %v, but the boxes are %v", list, from, to, positions, boxes)
				continue
			}
			for k, i := range boxes {
				pairs++
				if positions[k+1] < positions[k]+list[i].Size.Width {
					t.Errorf("SetLine of %v from %d to %d = %v: box %d overlaps", list, from, to, positions, i)
				}
			}
		}
	}
	if pairs < 1000 {
		t.Errorf("only %d boxes were set", pairs)
	}
}

// Promise 34.
func TestP34ParagraphsAreSetLineByLine(t *testing.T) {
	r := fixed()
	set := 0
	for _, list := range someParagraphs(300) {
		width, _ := widthAndTolerance(r)
		allWays(list, func(breaks []int) {
			lines := impl.SetParagraph(list, breaks, width)
			if !impl.ValidBreaks(list, breaks) {
				if lines != nil {
					t.Errorf("SetParagraph of %v for %v = %v", list, breaks, lines)
				}
				return
			}
			set++
			if len(lines) != len(breaks) {
				t.Errorf("SetParagraph of %v for %v = %v", list, breaks, lines)
				return
			}
			from := -1
			var boxes []int
			for n, to := range breaks {
				if want, _ := wantSet(list, from, to, width); !slices.Equal(lines[n], want) || !slices.Equal(lines[n], impl.SetLine(list, from, to, width)) {
					t.Errorf("SetParagraph of %v for %v = %v, want the line %v", list, breaks, lines, want)
				}
				boxes = append(boxes, impl.BoxesOf(list, from, to)...)
				from = to
			}
			equalInts(t, "boxes of all lines", boxes, allBoxes(list)...)
		})
	}
	if set < 1000 {
		t.Errorf("only %d paragraphs were set", set)
	}
}

// allBoxes returns the indices of all boxes.
func allBoxes(list []impl.Item) []int {
	var boxes []int
	for i, x := range list {
		if x.Kind == impl.BoxItem {
			boxes = append(boxes, i)
		}
	}
	return boxes
}

func TestP34SetParagraphFailsForInvalidArguments(t *testing.T) {
	for what, list := range invalidParagraphs() {
		if got := impl.SetParagraph(list, []int{len(list) - 1}, 10); got != nil {
			t.Errorf("%s: SetParagraph = %v", what, got)
		}
	}
	list := []impl.Item{box(10), penalty(0, 0), box(10), stop()}
	for _, n := range extremes {
		if got := impl.SetParagraph(list, []int{1, 3}, n); (got == nil) == (n >= 1 && n <= 10000) {
			t.Errorf("SetParagraph for the width %d = %v", n, got)
		}
		if got := impl.SetParagraph(list, []int{n, 3}, 10); (got == nil) == (n == 1) {
			t.Errorf("SetParagraph for the break %d = %v", n, got)
		}
	}
	for _, breaks := range [][]int{nil, {}, {1}, {3, 3}, {0, 3}, {2, 3}, {3, 1}, {1, 1, 3}, {1, 3, 4}} {
		if got := impl.SetParagraph(list, breaks, 10); got != nil {
			t.Errorf("SetParagraph of %v = %v", breaks, got)
		}
	}
}

// Promise 35.
func TestP35BoxesAreBetweenTheirBreaks(t *testing.T) {
	for _, list := range someParagraphs(300) {
		eachPair(list, func(from, to int) {
			var want []int
			if _, ok := impl.LineGlue(list, from, to); ok {
				for i := from + 1; i < to; i++ {
					if list[i].Kind == impl.BoxItem {
						want = append(want, i)
					}
				}
			}
			if got := impl.BoxesOf(list, from, to); !slices.Equal(got, want) {
				t.Errorf("BoxesOf %v from %d to %d = %v, want %v", list, from, to, got, want)
			}
		})
	}
	list := []impl.Item{box(1), box(2), glue(1, 1, 1), box(3), hyphen(1, 1), box(4), stop(), box(5), stop()}
	equalInts(t, "boxes of a line", impl.BoxesOf(list, -1, 4), 0, 1, 3)
	equalInts(t, "boxes of a line", impl.BoxesOf(list, 2, 6), 3, 5)
	equalInts(t, "boxes behind a forced break", impl.BoxesOf(list, 6, 8), 7)
	equalInts(t, "boxes beyond a forced break", impl.BoxesOf(list, 4, 8))
}

func TestP35BoxesOfFailsForInvalidItems(t *testing.T) {
	for what, list := range invalidParagraphs() {
		if got := impl.BoxesOf(list, -1, len(list)-1); got != nil {
			t.Errorf("%s: BoxesOf = %v", what, got)
		}
	}
}

func TestParagraphsAreNotChangedOrShared(t *testing.T) {
	list := []impl.Item{box(6), glue(4, 2, 1), box(6), hyphen(1, 50), box(6), stop(), box(6), glue(4, 2, 1), box(6), stop()}
	shape, breaks := []int{16, 12}, []int{3, 5, 9}
	words, patterns := []string{"abab", "ab"}, []string{"b1a"}
	items, kept, keptShape := slices.Clone(list), slices.Clone(breaks), slices.Clone(shape)
	// Each result is overwritten, up to its capacity; the next call must not notice.
	for range 2 {
		for what, c := range map[string]struct{ got, want []int }{
			"BreaksOf":      {impl.BreaksOf(list), []int{1, 3, 5, 7, 9}},
			"ForcedBreaks":  {impl.ForcedBreaks(list), []int{5, 9}},
			"BestBreaks":    {first(impl.BestBreaks(list, 17, 10000)), kept},
			"FirstFit":      {impl.FirstFit(list, 17), kept},
			"OverfullLines": {impl.OverfullLines(list, 6, breaks), []int{0, 2}},
			"SetLine":       {impl.SetLine(list, -1, 3, 17), []int{0, 10, 17}},
			"BoxesOf":       {impl.BoxesOf(list, -1, 3), []int{0, 2}},
			"ShapeBreaks":   {first(impl.ShapeBreaks(list, []int{17}, 10000)), kept},
		} {
			equalInts(t, what, c.got, c.want...)
			clear(c.got[:cap(c.got)])
		}
		lines := impl.SetParagraph(list, breaks, 17)
		if len(lines) != 3 {
			t.Fatalf("SetParagraph = %v", lines)
		}
		clear(lines[0][:cap(lines[0])])
		equalInts(t, "the second line", lines[1], 0, 6)
		clear(lines[1][:cap(lines[1])])
		equalInts(t, "the third line", lines[2], 0, 11, 17)
		clear(lines[:cap(lines)])
		impl.CheckBreaks(list, 17, 10000, breaks)
		impl.ShapeBreaks(list, shape, 10000)
		impl.CheckShape(list, shape, 10000, breaks)
		built, _ := impl.BuildParagraph(plainFont(), patterns, words)
		if len(built) != 8 {
			t.Errorf("BuildParagraph = %v", built)
		}
		clear(built[:cap(built)])
		hang, _ := impl.HangShape(16, 4, 0, 1)
		equalInts(t, "HangShape", hang, 12, 16)
		clear(hang[:cap(hang)])
	}
	if !slices.Equal(list, items) || !slices.Equal(breaks, kept) || !slices.Equal(shape, keptShape) || !slices.Equal(words, []string{"abab", "ab"}) || !slices.Equal(patterns, []string{"b1a"}) {
		t.Errorf("the arguments became %v, %v, %v, %q, %q", list, breaks, shape, words, patterns)
	}
}

// first returns the breaks of a result.
func first(breaks []int, _ int, _ bool) []int {
	return breaks
}
