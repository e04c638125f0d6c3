package tests

import (
	"math"
	"slices"
	"testing"

	"loop.example/typesetting/impl"
)

// wantFirstFit returns breaks that are chosen line by line.
func wantFirstFit(list []impl.Item, width int) []int {
	var breaks []int
	for from := -1; from < len(list)-1; {
		first, last := -1, -1
		for _, to := range wantBreaks(list) {
			fit, _ := wantFit(list, from, to, width)
			if fit != 0 && first < 0 {
				first = to
			}
			if fit == 1 || fit == 2 || fit == 3 {
				last = to
			}
		}
		if last < 0 {
			last = first
		}
		breaks = append(breaks, last)
		from = last
	}
	return breaks
}

// Promise 28.
func TestP28FirstFitBreaksAreValid(t *testing.T) {
	r := fixed()
	for _, list := range someParagraphs(1000) {
		width, _ := widthAndTolerance(r)
		breaks := impl.FirstFit(list, width)
		if !slices.Equal(breaks, wantFirstFit(list, width)) {
			t.Errorf("FirstFit of %v for %d = %v, want %v", list, width, breaks, wantFirstFit(list, width))
		}
		if !impl.ValidBreaks(list, breaks) {
			t.Errorf("FirstFit of %v for %d = %v, which are not valid", list, width, breaks)
		}
	}
	for range 200 {
		list := wideParagraph(r)
		width := 5000 + r.Intn(5001)
		equalInts(t, "FirstFit of wide items", impl.FirstFit(list, width), wantFirstFit(list, width)...)
	}
}

func TestP28FirstFitPassesOverfullBreaks(t *testing.T) {
	for i, c := range []struct {
		list  []impl.Item
		width int
		want  []int
	}{
		// A hyphen is too wide, but the line behind it is not.
		{[]impl.Item{box(3), hyphen(9, 0), box(3), stop()}, 10, []int{3}},
		{[]impl.Item{box(3), glue(1, 1, 1), box(3), hyphen(9, 0), box(2), hyphen(0, 0), box(9), stop()}, 10, []int{5, 7}},
		// The first break is taken where none fits.
		{[]impl.Item{box(11), hyphen(1, 0), box(0), hyphen(0, 0), box(3), stop()}, 10, []int{1, 5}},
		{[]impl.Item{box(11), glue(1, 1, 1), box(11), glue(1, 1, 1), box(11), stop()}, 10, []int{1, 3, 5}},
		{[]impl.Item{box(12), hyphen(1, 0), box(1), stop()}, 10, []int{1, 3}},
		{[]impl.Item{penalty(11, 0), penalty(12, 0), box(3), stop()}, 10, []int{3}},
		{[]impl.Item{penalty(11, 0), penalty(12, 0), box(11), stop()}, 10, []int{0, 1, 3}},
		// Glue that shrinks makes room for more.
		{[]impl.Item{box(6), glue(4, 2, 1), box(6), glue(4, 2, 1), box(6), stop()}, 15, []int{3, 5}},
		{[]impl.Item{box(6), glue(4, 2, 1), box(6), glue(4, 2, 1), box(6), stop()}, 14, []int{1, 3, 5}},
		{[]impl.Item{box(6), glue(4, 2, 1), box(6), glue(4, 2, 1), box(6), stop()}, 24, []int{5}},
		{[]impl.Item{box(6), glue(4, 2, 1), box(6), glue(4, 2, 1), box(6), stop()}, 23, []int{3, 5}},
		// Forced breaks are not passed, wherever there is room.
		{[]impl.Item{stop(), box(1), stop(), stop(), box(1), glue(1, 1, 1), box(1), penalty(0, -1000), glue(1, 1, 1), stop()}, 100, []int{0, 2, 3, 7, 9}},
		{[]impl.Item{box(11), stop(), box(1), stop()}, 10, []int{1, 3}},
		{[]impl.Item{box(1), penalty(0, -999), box(1), penalty(0, 999), box(1), stop()}, 2, []int{3, 5}},
	} {
		if got := impl.FirstFit(c.list, c.width); !slices.Equal(got, c.want) {
			t.Errorf("FirstFit of paragraph %d for %d = %v, want %v", i, c.width, got, c.want)
		}
	}
	longest := append(slices.Repeat([]impl.Item{box(1000), glue(1000, 0, 0)}, 29), stop())
	// Lines longer than MaxLength count as MaxLength, and fit.
	equalInts(t, "FirstFit for MaxLength", impl.FirstFit(longest, 10000), 58)
	equalInts(t, "FirstFit for less", impl.FirstFit(longest, 9999), 9, 19, 29, 39, 49, 58)
}

func TestP28FirstFitFailsForInvalidArguments(t *testing.T) {
	for what, list := range invalidParagraphs() {
		if got := impl.FirstFit(list, 10); got != nil {
			t.Errorf("%s: FirstFit = %v", what, got)
		}
	}
	for _, n := range extremes {
		if got := impl.FirstFit([]impl.Item{stop()}, n); (got == nil) == (n >= 1 && n <= 10000) {
			t.Errorf("FirstFit for the width %d = %v", n, got)
		}
	}
}

// Promise 29.
func TestP29FirstFitNeedsTheFewestLines(t *testing.T) {
	r := fixed()
	compared := 0
	for _, list := range someParagraphs(1500) {
		width, _ := widthAndTolerance(r)
		breaks := impl.FirstFit(list, width)
		if len(impl.OverfullLines(list, width, breaks)) > 0 {
			continue
		}
		fewest := math.MaxInt
		allWays(list, func(others []int) {
			if impl.ValidBreaks(list, others) && len(impl.OverfullLines(list, width, others)) == 0 {
				fewest = min(fewest, len(others))
			}
		})
		compared++
		if len(breaks) > fewest {
			t.Errorf("FirstFit of %v for %d = %v, but %d lines suffice", list, width, breaks, fewest)
		}
	}
	if compared < 500 {
		t.Errorf("only %d paragraphs were compared", compared)
	}
}

// Promise 30.
func TestP30OverfullLinesAreFound(t *testing.T) {
	r := fixed()
	found := 0
	for _, list := range someParagraphs(500) {
		width, _ := widthAndTolerance(r)
		allWays(list, func(breaks []int) {
			var want []int
			from := -1
			for n, to := range breaks {
				fit, _ := impl.FitLine(list, from, to, width)
				if fit == 0 {
					want = nil
					break
				}
				if fit == impl.Overfull {
					want = append(want, n)
				}
				from = to
			}
			if got := impl.OverfullLines(list, width, breaks); !slices.Equal(got, want) {
				t.Errorf("OverfullLines of %v, %d, %v = %v, want %v", list, width, breaks, got, want)
			}
			if len(want) > 1 {
				found++
			}
		})
	}
	if found < 1000 {
		t.Errorf("only %d times there were several overfull lines", found)
	}
	list := []impl.Item{box(11), glue(1, 1, 1), box(10), glue(2, 2, 2), box(12), stop()}
	equalInts(t, "OverfullLines", impl.OverfullLines(list, 10, []int{1, 3, 5}), 0, 2)
	equalInts(t, "OverfullLines", impl.OverfullLines(list, 11, []int{1, 3, 5}), 2)
	equalInts(t, "OverfullLines", impl.OverfullLines(list, 12, []int{1, 3, 5}))
	equalInts(t, "OverfullLines", impl.OverfullLines(list, 21, []int{3, 5}))
	equalInts(t, "OverfullLines", impl.OverfullLines(list, 20, []int{3, 5}), 0)
}

func TestP30OverfullLinesFailsForInvalidArguments(t *testing.T) {
	for what, list := range invalidParagraphs() {
		if got := impl.OverfullLines(list, 1, []int{len(list) - 1}); got != nil {
			t.Errorf("%s: OverfullLines = %v", what, got)
		}
	}
	list := []impl.Item{box(1000), penalty(0, -1), box(1000), stop()}
	for _, n := range extremes {
		if got := impl.OverfullLines(list, n, []int{1, 3}); (got == nil) == (n >= 1 && n < 1000) {
			t.Errorf("OverfullLines for the width %d = %v", n, got)
		}
		if got := impl.OverfullLines(list, 1, []int{n, 3}); (got == nil) == (n == 1) {
			t.Errorf("OverfullLines for the break %d = %v", n, got)
		}
		if got := impl.OverfullLines(list, 1, []int{1, n}); got != nil {
			t.Errorf("OverfullLines for the last break %d = %v", n, got)
		}
	}
	for _, breaks := range [][]int{nil, {1}, {3, 3}, {1, 1, 3}, {0, 3}, {2, 3}, {1, 3, 3}} {
		if got := impl.OverfullLines(list, 1, breaks); got != nil {
			t.Errorf("OverfullLines of %v = %v", breaks, got)
		}
	}
}

// Promise 31.
func TestP31ValidBreaksAreAscendingBreaks(t *testing.T) {
	for _, list := range someParagraphs(200) {
		if len(list) > 9 {
			continue
		}
		all, forced := impl.BreaksOf(list), impl.ForcedBreaks(list)
		for mask := range 1 << len(list) {
			var breaks []int
			for i := range list {
				if mask>>i&1 == 1 {
					breaks = append(breaks, i)
				}
			}
			want := true
			for _, i := range breaks {
				want = want && slices.Contains(all, i)
			}
			for _, i := range forced {
				want = want && slices.Contains(breaks, i)
			}
			if got := impl.ValidBreaks(list, breaks); got != want {
				t.Errorf("ValidBreaks of %v, %v = %v", list, breaks, got)
			}
			if want && len(breaks) > 1 && impl.ValidBreaks(list, append(breaks[1:], breaks[0])) {
				t.Errorf("ValidBreaks of %v in the wrong order, %v", list, breaks)
			}
		}
	}
}

func TestP31ValidBreaksFailsForInvalidArguments(t *testing.T) {
	for what, list := range invalidParagraphs() {
		if impl.ValidBreaks(list, []int{len(list) - 1}) || impl.ValidBreaks(list, nil) {
			t.Errorf("%s: ValidBreaks holds", what)
		}
	}
	list := []impl.Item{box(1), glue(1, 1, 1), box(1), stop(), box(1), stop()}
	for _, breaks := range [][]int{
		nil, {}, {5}, {3}, {1, 5}, {1, 3}, {3, 4}, {3, 5, 5}, {3, 3, 5}, {5, 3}, {3, 1, 5}, {0, 3, 5}, {1, 2, 3, 5}, {-1, 3, 5}, {3, 5, 6}, {3, 6},
		{5, 3, 5}, {1, 1, 3, 5}, {3, 1, 3, 5}, slices.Repeat([]int{5}, 10000),
	} {
		if impl.ValidBreaks(list, breaks) {
			t.Errorf("ValidBreaks holds for %v", breaks)
		}
	}
	for _, n := range extremes {
		for _, breaks := range [][]int{{n}, {n, 5}, {3, n}, {3, n, 5}, {n, 3, 5}, {3, 5, n}} {
			if got, want := impl.ValidBreaks(list, breaks), slices.Equal(breaks, []int{1, 3, 5}); got != want {
				t.Errorf("ValidBreaks of %v = %v", breaks, got)
			}
		}
	}
	if !impl.ValidBreaks(list, []int{3, 5}) || !impl.ValidBreaks(list, []int{1, 3, 5}) || !impl.ValidBreaks([]impl.Item{stop()}, []int{0}) {
		t.Error("ValidBreaks does not hold for valid breaks")
	}
}
