package tests

import (
	"slices"
	"testing"

	"loop.example/typesetting/impl"
)

// widthAndTolerance returns a width and a tolerance for which lines of small
// paragraphs are possible as often as not.
func widthAndTolerance(r randomSource) (int, int) {
	return 1 + r.Intn(25), []int{0, 100, 800, 10000, 10000}[r.Intn(5)]
}

// wantCosts gives the costs of lines of one width.
func wantCosts(list []impl.Item, width, tolerance int) costOfLine {
	return rememberCosts(func(_, from, to int) (int, bool) {
		return wantCost(list, from, to, width, tolerance)
	})
}

// rememberCosts asks for the cost of each line only once.
func rememberCosts(cost costOfLine) costOfLine {
	type answer struct {
		cost int
		ok   bool
	}
	known := map[[3]int]answer{}
	return func(n, from, to int) (int, bool) {
		key := [3]int{n, from, to}
		a, found := known[key]
		if !found {
			a.cost, a.ok = cost(n, from, to)
			known[key] = a
		}
		return a.cost, a.ok
	}
}

// Promise 21.
func TestP21TheBestBreaksAreChecked(t *testing.T) {
	r := fixed()
	found := 0
	for _, list := range someParagraphs(2000) {
		width, tolerance := widthAndTolerance(r)
		breaks, cost, ok := impl.BestBreaks(list, width, tolerance)
		want, least, possible := wantBest(list, wantCosts(list, width, tolerance), false)
		equalBreaks(t, "BestBreaks", list, breaks, cost, ok, want, least, possible)
		if !ok {
			continue
		}
		found++
		if checked, ok := impl.CheckBreaks(list, width, tolerance, breaks); !ok || checked != cost {
			t.Errorf("BestBreaks of %v = %v, %d, but CheckBreaks = %d, %v", list, breaks, cost, checked, ok)
		}
		if !impl.ValidBreaks(list, breaks) {
			t.Errorf("BestBreaks of %v = %v, which are not valid", list, breaks)
		}
	}
	if found < 1000 {
		t.Errorf("only %d paragraphs have breaks", found)
	}
}

func TestP21TheLastLineBeginsEarlyAmongEquals(t *testing.T) {
	stretch := glue(4, 2, 1)
	// With the width 10, one box on a line, or two with their glue, fit exactly.
	list := []impl.Item{box(10), stretch, box(3), stretch, box(3), stop()}
	breaks, cost, ok := impl.BestBreaks(list, 10, 10000)
	equalBreaks(t, "BestBreaks", list, breaks, cost, ok, []int{1, 5}, 2, true)
	for _, c := range []struct {
		list  []impl.Item
		width int
		want  []int
		least int
	}{
		// The cost 1 of a line is also what a penalty is worth: a line more or less costs the same.
		{[]impl.Item{box(5), hyphen(5, -1), box(5), stop()}, 10, []int{3}, 1},
		{[]impl.Item{box(10), penalty(0, 0), penalty(0, 0), box(10), stop()}, 10, []int{1, 4}, 2},
		{[]impl.Item{box(10), penalty(0, 0), box(0), penalty(0, 0), box(10), stop()}, 10, []int{1, 5}, 2},
		{[]impl.Item{box(10), penalty(0, 0), box(0), penalty(0, 0), box(0), penalty(0, 0), box(10), stop()}, 10, []int{1, 7}, 2},
		{[]impl.Item{box(10), penalty(0, 0), box(10), penalty(0, 0), box(0), penalty(0, 0), box(10), stop()}, 10, []int{1, 3, 7}, 3},
		{[]impl.Item{box(10), penalty(0, 0), box(0), penalty(0, 0), box(10), penalty(0, 0), box(0), penalty(0, 0), box(10), stop()}, 10, []int{1, 5, 9}, 3},
	} {
		breaks, cost, ok := impl.BestBreaks(c.list, c.width, 10000)
		equalBreaks(t, "BestBreaks", c.list, breaks, cost, ok, c.want, c.least, true)
	}
}

// fewerOrEarlier is a paragraph that costs 2 in two ways for the width 10 and
// the tolerance 100: with the breaks 6 and 8, or with 3, 5 and 8, which is a
// line more, but whose last line begins earlier.
var fewerOrEarlier = []impl.Item{
	box(4), penalty(0, 1000), glue(0, 1000, 0), penalty(0, -2), box(5), penalty(5, 1), penalty(0, 0), box(10), stop(),
}

func TestP21FewerLinesAreNoBetterAmongEquals(t *testing.T) {
	for _, breaks := range [][]int{{6, 8}, {3, 5, 8}} {
		if cost, ok := impl.CheckBreaks(fewerOrEarlier, 10, 100, breaks); !ok || cost != 2 {
			t.Errorf("CheckBreaks of %v = %d, %v", breaks, cost, ok)
		}
	}
	breaks, cost, ok := impl.BestBreaks(fewerOrEarlier, 10, 100)
	equalBreaks(t, "BestBreaks", fewerOrEarlier, breaks, cost, ok, []int{3, 5, 8}, 2, true)
}

func TestP21BestBreaksFailsForInvalidArguments(t *testing.T) {
	for what, list := range invalidParagraphs() {
		breaks, cost, ok := impl.BestBreaks(list, 10, 10000)
		equalBreaks(t, what+": BestBreaks", nil, breaks, cost, ok, nil, 0, false)
	}
	list := []impl.Item{box(10), stop()}
	for _, n := range extremes {
		if _, _, ok := impl.BestBreaks(list, n, 10000); ok != (n >= 10 && n <= 10000) {
			t.Errorf("BestBreaks for the width %d = %v", n, ok)
		}
		if _, _, ok := impl.BestBreaks(list, 10, n); ok != (n >= 0 && n <= 10000) {
			t.Errorf("BestBreaks for the tolerance %d = %v", n, ok)
		}
		breaks, cost, ok := impl.BestBreaks(list, n, -1)
		equalBreaks(t, "BestBreaks for the tolerance -1", list, breaks, cost, ok, nil, 0, false)
	}
	// The second line is overfull, whatever the first one is.
	list = []impl.Item{box(10), glue(1, 1, 1), box(11), stop()}
	breaks, cost, ok := impl.BestBreaks(list, 10, 10000)
	equalBreaks(t, "BestBreaks of a wide box", list, breaks, cost, ok, nil, 0, false)
}

// Promise 22.
func TestP22NoBreaksAreBetter(t *testing.T) {
	r := fixed()
	accepted := 0
	for _, list := range someParagraphs(500) {
		width, tolerance := widthAndTolerance(r)
		breaks, least, possible := impl.BestBreaks(list, width, tolerance)
		costs := wantCosts(list, width, tolerance)
		allWays(list, func(others []int) {
			cost, ok := impl.CheckBreaks(list, width, tolerance, others)
			if want, is := wantSum(list, others, costs); cost != want || ok != is {
				t.Errorf("CheckBreaks of %v for %v = %d, %v, want %d, %v", list, others, cost, ok, want, is)
			}
			if !ok {
				return
			}
			accepted++
			if !possible || cost < least {
				t.Errorf("BestBreaks of %v = %v, %d, but CheckBreaks of %v = %d", list, breaks, least, others, cost)
			}
		})
	}
	if accepted < 1000 {
		t.Errorf("only %d breaks were accepted", accepted)
	}
}

func TestP22NegativePenaltiesAreWorthALine(t *testing.T) {
	list := []impl.Item{box(5), glue(0, 1, 0), box(5), penalty(0, -999), box(5), penalty(0, -2), box(5), stop()}
	breaks, cost, ok := impl.BestBreaks(list, 10, 10000)
	equalBreaks(t, "BestBreaks", list, breaks, cost, ok, []int{3, 7}, 1-999*999+1, true)
	breaks, cost, ok = impl.BestBreaks(list, 20, 0)
	equalBreaks(t, "BestBreaks", list, breaks, cost, ok, []int{7}, 1, true)
	// A break that costs much less is worth lines that are as bad as possible.
	list = []impl.Item{box(1), penalty(0, -999), penalty(0, -999), penalty(0, -999), box(1), stop()}
	breaks, cost, ok = impl.BestBreaks(list, 2, 10000)
	equalBreaks(t, "BestBreaks", list, breaks, cost, ok, []int{5}, 1, true)
	list = []impl.Item{box(2), penalty(0, -999), hyphen(2, -999), hyphen(2, -999), box(2), stop()}
	breaks, cost, ok = impl.BestBreaks(list, 2, 10000)
	equalBreaks(t, "BestBreaks", list, breaks, cost, ok, []int{1, 2, 3, 5}, 4-3*999*999+3000, true)
}

func TestP22LargeParagraphsHaveTheBestBreaks(t *testing.T) {
	// Lines of the width 1 have one box each.
	var list []impl.Item
	for range 29 {
		list = append(list, box(1), hyphen(0, 0))
	}
	list = append(list, box(1), stop())
	breaks, cost, ok := impl.BestBreaks(list, 1, 10000)
	equalBreaks(t, "BestBreaks", list, breaks, cost, ok, wantBreaks(list), 30+28*impl.FlagCost, true)
	if lines := impl.LeastLines(list, 7, 0); lines != 0 {
		t.Errorf("LeastLines = %d", lines)
	}
	if lines := impl.LeastLines(list, 7, 10000); lines != 5 {
		t.Errorf("LeastLines = %d", lines)
	}
	// All 60 items are breaks.
	many := slices.Repeat([]impl.Item{penalty(1, 0)}, 59)
	many = append(many, penalty(1, -1000))
	breaks, cost, ok = impl.BestBreaks(many, 1, 0)
	equalBreaks(t, "BestBreaks", many, breaks, cost, ok, []int{59}, 1, true)
}

func TestP22CheckBreaksFailsForInvalidBreaks(t *testing.T) {
	list := []impl.Item{box(5), glue(1, 1, 1), box(5), penalty(0, 0), box(5), stop(), box(5), glue(1, 1, 1), box(5), stop()}
	good := []int{1, 3, 5, 7, 9}
	if cost, ok := impl.CheckBreaks(list, 5, 0, good); !ok || cost != 5 {
		t.Errorf("CheckBreaks = %d, %v", cost, ok)
	}
	for _, breaks := range [][]int{
		nil, {}, {9}, {5}, {1, 3, 5, 7}, {1, 3, 9}, {3, 1, 5, 9}, {1, 1, 3, 5, 7, 9}, {1, 3, 5, 7, 9, 9}, {0, 1, 3, 5, 7, 9},
		{1, 2, 3, 5, 7, 9}, {1, 3, 4, 5, 7, 9}, {-1, 1, 3, 5, 7, 9}, {1, 3, 5, 7, 9, 10}, {1, 3, 5, 7, 10}, {-2, 1, 3, 5, 7, 9}, {1, 3, 5, 5, 7, 9},
		{1, 3, 5, 7, 9, 3, 9}, {9, 1, 3, 5, 7, 9}, slices.Repeat([]int{9}, 10000),
	} {
		if cost, ok := impl.CheckBreaks(list, 10, 10000, breaks); ok || cost != 0 {
			t.Errorf("CheckBreaks of %v = %d, %v", breaks, cost, ok)
		}
	}
	for _, n := range extremes {
		for i := range good {
			breaks := slices.Clone(good)
			breaks[i] = n
			if cost, ok := impl.CheckBreaks(list, 5, 0, breaks); ok != slices.Equal(breaks, good) || !ok && cost != 0 {
				t.Errorf("CheckBreaks of %v = %d, %v", breaks, cost, ok)
			}
		}
		if cost, ok := impl.CheckBreaks(list, n, 10000, good); ok != (n >= 5 && n <= 10000) || !ok && cost != 0 {
			t.Errorf("CheckBreaks for the width %d = %d, %v", n, cost, ok)
		}
		if cost, ok := impl.CheckBreaks(list, 5, n, good); ok != (n >= 0 && n <= 10000) || !ok && cost != 0 {
			t.Errorf("CheckBreaks for the tolerance %d = %d, %v", n, cost, ok)
		}
	}
	for what, list := range invalidParagraphs() {
		for _, breaks := range [][]int{nil, {len(list) - 1}} {
			if cost, ok := impl.CheckBreaks(list, 10, 10000, breaks); ok || cost != 0 {
				t.Errorf("%s: CheckBreaks = %d, %v", what, cost, ok)
			}
		}
	}
}

// Promise 23.
func TestP23BestBreaksIncludeAllForcedOnes(t *testing.T) {
	r := fixed()
	checked := 0
	for _, list := range someParagraphs(1000) {
		width, tolerance := widthAndTolerance(r)
		list = slices.Insert(list, r.Intn(len(list)), stop())
		breaks, _, ok := impl.BestBreaks(list, width, tolerance)
		forced := impl.ForcedBreaks(list)
		if !ok {
			continue
		}
		checked++
		for _, i := range forced {
			if !slices.Contains(breaks, i) {
				t.Errorf("BestBreaks of %v = %v without %d", list, breaks, i)
			}
		}
	}
	if checked < 100 {
		t.Errorf("only %d paragraphs had several forced breaks", checked)
	}
	list := []impl.Item{box(1), stop(), box(1), hyphen(0, -1000), hyphen(0, -1000), box(1), glue(1, 1, 1), stop()}
	breaks, cost, ok := impl.BestBreaks(list, 10000, 10000)
	equalBreaks(t, "BestBreaks", list, breaks, cost, ok, []int{1, 3, 4, 7}, 4*10001*10001+3000, true)
}

// Promise 24.
func TestP24ALargerToleranceDoesNotCostMore(t *testing.T) {
	r := fixed()
	less := 0
	for _, list := range someParagraphs(2000) {
		width, tolerance := widthAndTolerance(r)
		_, cost, ok := impl.BestBreaks(list, width, tolerance)
		if !ok {
			continue
		}
		best, least, ok := impl.BestBreaks(list, width, impl.MaxBadness)
		if !ok || least > cost {
			t.Errorf("BestBreaks of %v for %d, %d costs %d, but for MaxBadness %v, %d, %v", list, width, tolerance, cost, best, least, ok)
		}
		if least < cost {
			less++
		}
	}
	if less == 0 {
		t.Error("a larger tolerance never costs less")
	}
	// The first line has the badness 800 in the better way.
	list := []impl.Item{box(4), glue(2, 2, 0), box(4), penalty(0, -999), penalty(4, 0), box(14), stop()}
	breaks, cost, ok := impl.BestBreaks(list, 14, 799)
	equalBreaks(t, "BestBreaks", list, breaks, cost, ok, []int{4, 6}, 2, true)
	breaks, cost, ok = impl.BestBreaks(list, 14, 800)
	equalBreaks(t, "BestBreaks", list, breaks, cost, ok, []int{3, 6}, 801*801-999*999+1, true)
}

// Promise 25.
func TestP25CostsAddUp(t *testing.T) {
	r := fixed()
	accepted := 0
	for _, list := range someParagraphs(500) {
		width, tolerance := widthAndTolerance(r)
		allWays(list, func(breaks []int) {
			cost, ok := impl.CheckBreaks(list, width, tolerance, breaks)
			sum, all := wantSum(list, breaks, func(_, from, to int) (int, bool) {
				return impl.LineCost(list, from, to, width, tolerance)
			})
			if ok != all || ok && cost != sum {
				t.Errorf("CheckBreaks of %v for %v = %d, %v, but the lines cost %d, %v", list, breaks, cost, ok, sum, all)
			}
			if ok && len(breaks) > 1 {
				accepted++
			}
		})
	}
	if accepted < 1000 {
		t.Errorf("only %d breaks were accepted", accepted)
	}
}

// Promise 26.
func TestP26NoBreaksHaveFewerLines(t *testing.T) {
	r := fixed()
	for _, list := range someParagraphs(1000) {
		width, tolerance := widthAndTolerance(r)
		lines, want := impl.LeastLines(list, width, tolerance), 0
		costs := wantCosts(list, width, tolerance)
		allWays(list, func(breaks []int) {
			if _, ok := wantSum(list, breaks, costs); ok && (want == 0 || len(breaks) < want) {
				want = len(breaks)
			}
		})
		if lines != want {
			t.Errorf("LeastLines of %v for %d, %d = %d, want %d", list, width, tolerance, lines, want)
		}
		if _, _, ok := impl.BestBreaks(list, width, tolerance); ok != (lines > 0) {
			t.Errorf("LeastLines of %v for %d, %d = %d, but BestBreaks = %v", list, width, tolerance, lines, ok)
		}
	}
	// The best breaks have more lines than needed.
	list := []impl.Item{box(5), penalty(0, -999), box(5), stop()}
	if lines := impl.LeastLines(list, 10, 10000); lines != 1 {
		t.Errorf("LeastLines = %d", lines)
	}
}

func TestP26LeastLinesFailsForInvalidArguments(t *testing.T) {
	for what, list := range invalidParagraphs() {
		if lines := impl.LeastLines(list, 10, 10000); lines != 0 {
			t.Errorf("%s: LeastLines = %d", what, lines)
		}
	}
	list := []impl.Item{box(10), stop()}
	for _, n := range extremes {
		if lines := impl.LeastLines(list, n, 10000); (lines == 1) != (n >= 10 && n <= 10000) || lines != 0 && lines != 1 {
			t.Errorf("LeastLines for the width %d = %d", n, lines)
		}
		if lines := impl.LeastLines(list, 10, n); (lines == 1) != (n >= 0 && n <= 10000) || lines != 0 && lines != 1 {
			t.Errorf("LeastLines for the tolerance %d = %d", n, lines)
		}
	}
}

// Promise 27.
func TestP27ThereAreAtLeastAsManyLinesAsForcedBreaks(t *testing.T) {
	r := fixed()
	for _, list := range someParagraphs(1000) {
		width, tolerance := widthAndTolerance(r)
		if lines, forced := impl.LeastLines(list, width, tolerance), len(impl.ForcedBreaks(list)); lines != 0 && lines < forced {
			t.Errorf("LeastLines of %v = %d, but there are %d forced breaks", list, lines, forced)
		}
	}
	list := []impl.Item{box(3), stop(), stop(), box(3), glue(1, 1, 1), box(3), stop()}
	if lines := impl.LeastLines(list, 7, 10000); lines != 3 {
		t.Errorf("LeastLines = %d", lines)
	}
	if lines := impl.LeastLines(list, 5, 10000); lines != 4 {
		t.Errorf("LeastLines = %d", lines)
	}
	if lines := impl.LeastLines(list, 2, 10000); lines != 0 {
		t.Errorf("LeastLines = %d", lines)
	}
}

// Promise 137.
func TestP137WideLinesEndOnlyAtForcedBreaks(t *testing.T) {
	lists := someParagraphs(1000)
	lists = append(lists,
		slices.Repeat([]impl.Item{stop()}, 60),
		append(slices.Repeat([]impl.Item{box(1000)}, 10), stop()),
		append(slices.Repeat([]impl.Item{box(500), glue(500, 0, 500)}, 10), stop()),
		append(slices.Repeat([]impl.Item{hyphen(0, -999)}, 59), stop()))
	for _, list := range lists {
		if lines, forced := impl.LeastLines(list, impl.MaxLength, impl.MaxBadness), len(impl.ForcedBreaks(list)); lines != forced {
			t.Errorf("LeastLines of %v = %d, but there are %d forced breaks", list, lines, forced)
		}
	}
}
