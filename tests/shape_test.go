package tests

import (
	"slices"
	"testing"

	"loop.example/typesetting/impl"
)

// invalidShapes are lists of widths that are not shapes.
var invalidShapes = [][]int{
	nil, {}, {0}, {10001}, {-1}, {10, 0}, {0, 10}, {10, 10001, 10}, {10, -1}, {extremes[0]}, {10, extremes[len(extremes)-1]},
	slices.Repeat([]int{10}, 13), slices.Repeat([]int{10}, 10000),
}

// randomShape returns a shape for small paragraphs.
func randomShape(r randomSource) []int {
	var shape []int
	for range 1 + r.Intn(4) {
		shape = append(shape, 3+r.Intn(20))
	}
	return shape
}

// wantShapeCosts gives the costs of lines with the widths of a shape.
func wantShapeCosts(list []impl.Item, shape []int, tolerance int) costOfLine {
	return rememberCosts(func(n, from, to int) (int, bool) {
		width := shape[len(shape)-1]
		if n < len(shape) {
			width = shape[n]
		}
		return wantCost(list, from, to, width, tolerance)
	})
}

// Promise 36.
func TestP36TheLastWidthIsRepeated(t *testing.T) {
	twelve := []int{1, 10000, 3, 4, 5, 6, 7, 8, 9, 10, 11, 12}
	for _, shape := range [][]int{{1}, {10000}, {7, 3}, {3, 7, 5}, twelve} {
		for n := range 40 {
			if got, want := impl.WidthOfLine(shape, n), shape[min(n, len(shape)-1)]; got != want {
				t.Errorf("WidthOfLine(%v, %d) = %d, want %d", shape, n, got, want)
			}
		}
		for _, n := range extremes {
			want := 0
			if n >= 0 {
				want = shape[min(n, len(shape)-1)]
			}
			if got := impl.WidthOfLine(shape, n); got != want {
				t.Errorf("WidthOfLine(%v, %d) = %d, want %d", shape, n, got, want)
			}
		}
	}
}

func TestP36WidthOfLineFailsForInvalidShapes(t *testing.T) {
	for _, shape := range invalidShapes {
		for _, n := range []int{-1, 0, 1, 100} {
			if got := impl.WidthOfLine(shape, n); got != 0 {
				t.Errorf("WidthOfLine(%v, %d) = %d", shape, n, got)
			}
		}
	}
}

// Promise 37.
func TestP37IndentedLinesAreShorter(t *testing.T) {
	for _, width := range []int{1, 2, 20, 10000} {
		for _, indent := range []int{0, 1, 19, 9999} {
			for first := range 14 {
				for count := range 14 {
					shape, ok := impl.HangShape(width, indent, first, count)
					if valid := indent < width && first+count+1 <= 12; ok != valid || !ok && shape != nil {
						t.Errorf("HangShape(%d, %d, %d, %d) = %v, %v", width, indent, first, count, shape, ok)
					}
					if !ok {
						continue
					}
					var want []int
					want = append(want, slices.Repeat([]int{width}, first)...)
					want = append(want, slices.Repeat([]int{width - indent}, count)...)
					want = append(want, width)
					equalInts(t, "HangShape", shape, want...)
					for n := range 20 {
						short := n >= first && n < first+count
						if got := impl.WidthOfLine(shape, n); short && got != width-indent || !short && got != width {
							t.Errorf("line %d of HangShape(%d, %d, %d, %d) has the width %d", n, width, indent, first, count, got)
						}
					}
				}
			}
		}
	}
}

func TestP37HangShapeFailsForInvalidArguments(t *testing.T) {
	for _, n := range extremes {
		for i, c := range []struct {
			args  [4]int
			valid bool
		}{
			{[4]int{n, 0, 1, 1}, n >= 1 && n <= 10000},
			{[4]int{n, n, 1, 1}, false},
			{[4]int{20, n, 1, 1}, n >= 0 && n < 20},
			{[4]int{20, 5, n, 1}, n >= 0 && n <= 10},
			{[4]int{20, 5, 1, n}, n >= 0 && n <= 10},
			{[4]int{20, 5, n, -n}, n == 0},
			{[4]int{20, 5, n, n}, n >= 0 && n <= 5},
			{[4]int{20, 5, n, 11 - n}, n >= 0 && n <= 11},
		} {
			shape, ok := impl.HangShape(c.args[0], c.args[1], c.args[2], c.args[3])
			if ok != c.valid || ok == (shape == nil) {
				t.Errorf("case %d: HangShape of %v = %v, %v", i, c.args, shape, ok)
			}
		}
	}
}

// Promise 149.
func TestP149NothingHangsWithoutLines(t *testing.T) {
	for _, width := range []int{1, 20, 10000} {
		for first := range 12 {
			for _, indent := range []int{0, width / 2, width - 1} {
				shape, ok := impl.HangShape(width, indent, first, 0)
				if !ok || len(shape) != first+1 {
					t.Errorf("HangShape(%d, %d, %d, 0) = %v, %v", width, indent, first, shape, ok)
				}
				for n := range 20 {
					if got := impl.WidthOfLine(shape, n); got != width {
						t.Errorf("line %d of HangShape(%d, %d, %d, 0) has the width %d", n, width, indent, first, got)
					}
				}
			}
		}
	}
}

// Promise 38.
func TestP38TheBestBreaksOfAShapeAreChecked(t *testing.T) {
	r := fixed()
	found := 0
	for _, list := range someParagraphs(1500) {
		shape := randomShape(r)
		_, tolerance := widthAndTolerance(r)
		breaks, cost, ok := impl.ShapeBreaks(list, shape, tolerance)
		want, least, possible := wantBest(list, wantShapeCosts(list, shape, tolerance), true)
		equalBreaks(t, "ShapeBreaks", list, breaks, cost, ok, want, least, possible)
		if !ok {
			continue
		}
		found++
		if checked, ok := impl.CheckShape(list, shape, tolerance, breaks); !ok || checked != cost {
			t.Errorf("ShapeBreaks of %v for %v = %v, %d, but CheckShape = %d, %v", list, shape, breaks, cost, checked, ok)
		}
	}
	if found < 1000 {
		t.Errorf("only %d paragraphs have breaks", found)
	}
}

func TestP38FewerLinesAreBetterAmongEquals(t *testing.T) {
	for _, shape := range [][]int{{10}, {10, 10, 10}} {
		breaks, cost, ok := impl.ShapeBreaks(fewerOrEarlier, shape, 100)
		equalBreaks(t, "ShapeBreaks", fewerOrEarlier, breaks, cost, ok, []int{6, 8}, 2, true)
	}
	list := []impl.Item{box(10), penalty(0, 0), box(0), penalty(0, 0), box(10), penalty(0, 0), box(0), penalty(0, 0), box(10), stop()}
	breaks, cost, ok := impl.ShapeBreaks(list, []int{10}, 10000)
	equalBreaks(t, "ShapeBreaks", list, breaks, cost, ok, []int{1, 5, 9}, 3, true)
}

func TestP38TheNumberOfALineDecidesItsWidth(t *testing.T) {
	list := []impl.Item{box(5), hyphen(0, 0), box(5), penalty(0, 0), box(7), stop()}
	const worst = 10001 * 10001
	for _, c := range []struct {
		shape []int
		want  []int
		least int
	}{
		{[]int{10}, []int{3, 5}, 1 + worst},
		{[]int{10, 7}, []int{3, 5}, 2},
		{[]int{5, 5, 7}, []int{1, 3, 5}, 3},
		{[]int{10, 12}, []int{1, 5}, worst + 1},
		// The best way to the break 3 has one line, but then the second one has no room for the last box.
		{[]int{10, 5, 7}, []int{1, 3, 5}, worst + 2},
	} {
		breaks, cost, ok := impl.ShapeBreaks(list, c.shape, 10000)
		equalBreaks(t, "ShapeBreaks", list, breaks, cost, ok, c.want, c.least, true)
	}
}

func TestP38LargeParagraphsHaveShapes(t *testing.T) {
	boxes := func(n int) []impl.Item {
		var list []impl.Item
		for range n - 1 {
			list = append(list, box(1), hyphen(0, 0))
		}
		return append(list, box(1), stop())
	}
	// Each of the first 12 lines has room for one box more than the one before it: 28 boxes fill 7 lines.
	shape := ascending(13)[1:]
	list := boxes(28)
	breaks, cost, ok := impl.ShapeBreaks(list, shape, 0)
	equalBreaks(t, "ShapeBreaks", list, breaks, cost, ok, []int{1, 5, 11, 19, 29, 41, 55}, 7+5*impl.FlagCost, true)
	list = boxes(30)
	breaks, cost, ok = impl.ShapeBreaks(list, shape, 0)
	equalBreaks(t, "ShapeBreaks", list, breaks, cost, ok, nil, 0, false)
	many := append(slices.Repeat([]impl.Item{penalty(1, 0)}, 59), penalty(1, -1000))
	breaks, cost, ok = impl.ShapeBreaks(many, []int{1, 2, 3, 4, 5, 6, 7, 8, 9, 10, 11, 1}, 10000)
	equalBreaks(t, "ShapeBreaks", many, breaks, cost, ok, []int{59}, 1, true)
}

func TestP38ShapeBreaksFailsForInvalidArguments(t *testing.T) {
	for what, list := range invalidParagraphs() {
		breaks, cost, ok := impl.ShapeBreaks(list, []int{10}, 10000)
		equalBreaks(t, what+": ShapeBreaks", nil, breaks, cost, ok, nil, 0, false)
	}
	list := []impl.Item{box(10), stop()}
	for _, shape := range invalidShapes {
		breaks, cost, ok := impl.ShapeBreaks(list, shape, 10000)
		equalBreaks(t, "ShapeBreaks", list, breaks, cost, ok, nil, 0, false)
	}
	for _, n := range extremes {
		if _, _, ok := impl.ShapeBreaks(list, []int{10}, n); ok != (n >= 0 && n <= 10000) {
			t.Errorf("ShapeBreaks for the tolerance %d = %v", n, ok)
		}
		if _, _, ok := impl.ShapeBreaks(list, []int{n}, 10000); ok != (n >= 10 && n <= 10000) {
			t.Errorf("ShapeBreaks for the width %d = %v", n, ok)
		}
		// A width that no line has must be valid, too.
		if _, _, ok := impl.ShapeBreaks(list, []int{10, n}, 10000); ok != (n >= 1 && n <= 10000) {
			t.Errorf("ShapeBreaks for the second width %d = %v", n, ok)
		}
	}
	breaks, cost, ok := impl.ShapeBreaks(list, []int{9, 10}, 10000)
	equalBreaks(t, "ShapeBreaks of a wide box", list, breaks, cost, ok, nil, 0, false)
}

// Promise 39.
func TestP39NoBreaksAreBetterForAShape(t *testing.T) {
	r := fixed()
	accepted := 0
	for _, list := range someParagraphs(500) {
		shape := randomShape(r)
		_, tolerance := widthAndTolerance(r)
		breaks, least, possible := impl.ShapeBreaks(list, shape, tolerance)
		costs := wantShapeCosts(list, shape, tolerance)
		allWays(list, func(others []int) {
			cost, ok := impl.CheckShape(list, shape, tolerance, others)
			if want, is := wantSum(list, others, costs); cost != want || ok != is {
				t.Errorf("CheckShape of %v for %v, %v = %d, %v, want %d, %v", list, shape, others, cost, ok, want, is)
			}
			if !ok {
				return
			}
			accepted++
			if !possible || cost < least {
				t.Errorf("ShapeBreaks of %v for %v = %v, %d, but CheckShape of %v = %d", list, shape, breaks, least, others, cost)
			}
		})
	}
	if accepted < 1000 {
		t.Errorf("only %d breaks were accepted", accepted)
	}
}

func TestP39CheckShapeFailsForInvalidArguments(t *testing.T) {
	list := []impl.Item{box(5), glue(1, 1, 1), box(6), penalty(0, 0), box(7), stop()}
	good, shape := []int{1, 3, 5}, []int{5, 6, 7}
	if cost, ok := impl.CheckShape(list, shape, 0, good); !ok || cost != 3 {
		t.Errorf("CheckShape = %d, %v", cost, ok)
	}
	for _, breaks := range [][]int{
		nil, {}, {5, 5}, {1, 3}, {3, 1, 5}, {1, 1, 3, 5}, {1, 3, 5, 5}, {0, 3, 5}, {1, 2, 5}, {1, 4, 5}, {-1, 3, 5}, {1, 3, 6}, {1, 3, 5, 6}, {extremes[0], 3, 5}, {1, 3, extremes[len(extremes)-1]},
	} {
		if cost, ok := impl.CheckShape(list, []int{100}, 10000, breaks); ok || cost != 0 {
			t.Errorf("CheckShape of %v = %d, %v", breaks, cost, ok)
		}
	}
	for _, shape := range invalidShapes {
		if cost, ok := impl.CheckShape(list, shape, 10000, good); ok || cost != 0 {
			t.Errorf("CheckShape for %v = %d, %v", shape, cost, ok)
		}
	}
	for _, shape := range [][]int{{4, 6, 7}, {5, 5, 7}, {5, 6}, {5, 6, 6, 7}, {6}} {
		if cost, ok := impl.CheckShape(list, shape, 10000, good); ok || cost != 0 {
			t.Errorf("CheckShape for %v = %d, %v", shape, cost, ok)
		}
	}
	for _, n := range extremes {
		if cost, ok := impl.CheckShape(list, shape, n, good); ok != (n >= 0 && n <= 10000) || !ok && cost != 0 {
			t.Errorf("CheckShape for the tolerance %d = %d, %v", n, cost, ok)
		}
	}
	for what, list := range invalidParagraphs() {
		if cost, ok := impl.CheckShape(list, []int{10}, 10000, []int{len(list) - 1}); ok || cost != 0 {
			t.Errorf("%s: CheckShape = %d, %v", what, cost, ok)
		}
	}
}

// Promise 40.
func TestP40AShapeOfOneWidthIsAWidth(t *testing.T) {
	r := fixed()
	for _, list := range someParagraphs(1500) {
		width, tolerance := widthAndTolerance(r)
		_, cost, ok := impl.ShapeBreaks(list, []int{width}, tolerance)
		_, least, possible := impl.BestBreaks(list, width, tolerance)
		if cost != least || ok != possible {
			t.Errorf("ShapeBreaks of %v for %d costs %d, %v, but BestBreaks %d, %v", list, width, cost, ok, least, possible)
		}
	}
}

// Promise 41.
func TestP41ChecksAgreeForOneWidth(t *testing.T) {
	r := fixed()
	for _, list := range someParagraphs(300) {
		width, tolerance := widthAndTolerance(r)
		allWays(list, func(breaks []int) {
			cost, ok := impl.CheckShape(list, []int{width}, tolerance, breaks)
			if want, is := impl.CheckBreaks(list, width, tolerance, breaks); cost != want || ok != is {
				t.Errorf("CheckShape of %v for %d, %v = %d, %v, but CheckBreaks = %d, %v", list, width, breaks, cost, ok, want, is)
			}
		})
	}
	list := []impl.Item{box(5), glue(1, 1, 1), box(5), stop()}
	for _, breaks := range [][]int{nil, {1}, {3}, {1, 3}, {0, 3}, {3, 1}, {1, 3, 3}} {
		for _, n := range extremes {
			for _, pair := range [][2]int{{n, 10000}, {5, n}, {11, n}} {
				cost, ok := impl.CheckShape(list, []int{pair[0]}, pair[1], breaks)
				if want, is := impl.CheckBreaks(list, pair[0], pair[1], breaks); cost != want || ok != is {
					t.Errorf("CheckShape for %v, %v = %d, %v, but CheckBreaks = %d, %v", pair, breaks, cost, ok, want, is)
				}
			}
		}
	}
}
