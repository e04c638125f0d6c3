package tests

import (
	"fmt"
	"slices"
	"testing"

	"loop.example/typesetting/impl"
)

// plain returns n lines of a height without notes and penalties.
func plain(n, height int) []impl.Line {
	return slices.Repeat([]impl.Line{{Height: height}}, n)
}

// randomLines returns 1 to n small lines, with many equal costs of pages, notes and penalties.
func randomLines(r randomSource, n int) []impl.Line {
	var list []impl.Line
	for range 1 + r.Intn(n) {
		x := impl.Line{Height: 1 + r.Intn(3)}
		if r.Intn(4) == 0 {
			x.Note = 1 + r.Intn(4)
		}
		if r.Intn(3) == 0 {
			x.Penalty = []int{1, 2, 3, 4, 9, 100, 150, 250}[r.Intn(8)]
		}
		list = append(list, x)
	}
	return list
}

// someLines goes over lines of texts with heights of pages into which they fit more often than not.
func someLines(n int, visit func(list []impl.Line, height int)) {
	r := fixed()
	for range n {
		visit(randomLines(r, 9), 3+r.Intn(14))
	}
	visit(plain(1, 1), 1)
	visit(plain(1, 1000), 10000)
	visit(plain(8, 1), 3)
	visit([]impl.Line{{Height: 1000, Note: 1000, Penalty: 1000}, {Height: 1, Note: 1000}, {Height: 1000, Penalty: 1000}}, 2002)
	visit([]impl.Line{{Height: 1000, Note: 1000, Penalty: 1000}}, 2001)
}

// invalidLines returns lists that are not lines of a text, by what is wrong.
func invalidLines() map[string][]impl.Line {
	list := map[string][]impl.Line{
		"no lines":            nil,
		"an empty list":       {},
		"41 lines":            plain(41, 1),
		"10000 lines":         plain(10000, 1),
		"a line of no height": {{Height: 1}, {Height: 0}},
		"a zero line":         {{}},
	}
	for _, n := range append([]int{999, 1000, 1001}, extremes...) {
		if n < 1 || n > 1000 {
			list[fmt.Sprint("height ", n)] = []impl.Line{{Height: 1}, {Height: n}, {Height: 1}}
		}
		if n < 0 || n > 1000 {
			list[fmt.Sprint("first height ", n)] = []impl.Line{{Height: n}, {Height: 1}}
			list[fmt.Sprint("note ", n)] = []impl.Line{{Height: 1}, {Height: 1, Note: n}}
			list[fmt.Sprint("penalty ", n)] = []impl.Line{{Height: 1, Penalty: n}, {Height: 1}}
			list[fmt.Sprint("notes ", n, " and its opposite")] = []impl.Line{{Height: 1, Note: n}, {Height: 1, Note: -n}}
		}
	}
	return list
}

// badEnds returns lists that do not divide n elements, from 3 on.
func badEnds(n int) [][]int {
	return [][]int{
		nil, {}, {0}, {0, n}, {-1, n}, {1}, {n - 1}, {1, n - 1}, {n + 1}, {1, n + 1}, {n, n + 1}, {n, n}, {1, 1, n}, {2, 1, n}, {n, 1}, {1, n, 2}, {1, n, n},
		{extremes[0], n}, {extremes[0]}, {extremes[len(extremes)-1]}, {1, extremes[len(extremes)-1]}, {extremes[len(extremes)-1], n}, slices.Repeat([]int{n}, 10000),
	}
}

// allEnds goes over all ways to divide n elements, from 1 on, into pieces.
func allEnds(n int, visit func(ends []int)) {
	for mask := range 1 << (n - 1) {
		var ends []int
		for i := 1; i < n; i++ {
			if mask>>(i-1)&1 == 1 {
				ends = append(ends, i)
			}
		}
		visit(append(ends, n))
	}
}

// wantHeight returns the height of a page with the given lines.
func wantHeight(page []impl.Line) int {
	lines, notes := 0, 0
	for _, x := range page {
		lines += x.Height
		notes += x.Note
	}
	if notes > 0 {
		return lines + notes + 2
	}
	return lines
}

// wantPages returns the sum of the costs of pages, and whether they are possible.
func wantPages(list []impl.Line, height int, ends []int) (int, bool) {
	sum, from := 0, 0
	for _, to := range ends {
		rest := height - wantHeight(list[from:to])
		if rest < 0 {
			return 0, false
		}
		if to < len(list) {
			sum += rest*rest + list[to-1].Penalty
		}
		from = to
	}
	return sum, true
}

// wantBestPages returns the best pages by trying all of them.
func wantBestPages(list []impl.Line, height int) ([]int, int, bool) {
	var best []int
	least := 0
	allEnds(len(list), func(ends []int) {
		sum, ok := wantPages(list, height, ends)
		if ok && (best == nil || sum < least || sum == least && slices.Compare(beginnings(ends), beginnings(best)) < 0) {
			best, least = ends, sum
		}
	})
	return best, least, best != nil
}

// equalPages reports an error if pages and their cost are not as expected.
func equalPages(t *testing.T, what string, list []impl.Line, height int, got []int, cost int, ok bool, want []int, least int, is bool) {
	t.Helper()
	if !slices.Equal(got, want) || cost != least || ok != is {
		t.Errorf("%s of %v for the height %d = %v, %d, %v, want %v, %d, %v", what, list, height, got, cost, ok, want, least, is)
	}
}

// Promise 52.
func TestP52PagesAreAsHighAsTheirLines(t *testing.T) {
	someLines(500, func(list []impl.Line, _ int) {
		if !impl.ValidLines(list) {
			t.Fatalf("%v is not valid", list)
		}
		n := len(list)
		for from := -2; from <= n+2; from++ {
			for to := -2; to <= n+2; to++ {
				want := -1
				if 0 <= from && from <= to && to <= n {
					want = wantHeight(list[from:to])
				}
				got := impl.PageHeight(list, from, to)
				if got != want {
					t.Errorf("PageHeight of %v from %d to %d = %d, want %d", list, from, to, got, want)
				}
				if want >= 0 && to < n && impl.PageHeight(list, from, to+1) < got || want >= 0 && from > 0 && impl.PageHeight(list, from-1, to) < got {
					t.Errorf("PageHeight of %v from %d to %d = %d, but a longer page is less high", list, from, to, got)
				}
			}
		}
		without := slices.Clone(list)
		sum := 0
		for i := range without {
			without[i].Note = 0
			sum += without[i].Height
			if got := impl.PageHeight(without, 0, i+1); got != sum {
				t.Errorf("PageHeight of the first %d of %v = %d, want %d", i+1, without, got, sum)
			}
		}
	})
}

func TestP52NotesHaveOneRule(t *testing.T) {
	list := []impl.Line{{Height: 5}, {Height: 5, Note: 1}, {Height: 5}, {Height: 5, Note: 4, Penalty: 7}, {Height: 5}}
	for _, c := range [][3]int{{0, 0, 0}, {2, 2, 0}, {5, 5, 0}, {0, 1, 5}, {0, 2, 13}, {1, 2, 8}, {1, 3, 13}, {1, 4, 22}, {0, 5, 32}, {2, 3, 5}, {4, 5, 5}, {3, 5, 16}} {
		if got := impl.PageHeight(list, c[0], c[1]); got != c[2] {
			t.Errorf("PageHeight from %d to %d = %d, want %d", c[0], c[1], got, c[2])
		}
	}
	full := slices.Repeat([]impl.Line{{Height: 1000, Note: 1000, Penalty: 1000}}, 40)
	if !impl.ValidLines(full) || impl.PageHeight(full, 0, 40) != 80002 {
		t.Errorf("PageHeight of 40 high lines = %d", impl.PageHeight(full, 0, 40))
	}
}

func TestP52PageHeightFailsForInvalidArguments(t *testing.T) {
	for what, list := range invalidLines() {
		if impl.ValidLines(list) {
			t.Errorf("%s is valid", what)
		}
		for _, to := range []int{0, 1, len(list)} {
			if got := impl.PageHeight(list, 0, to); got != -1 {
				t.Errorf("%s: PageHeight = %d", what, got)
			}
		}
	}
	list := plain(3, 5)
	for _, n := range extremes {
		for _, c := range []struct {
			from, to int
			valid    bool
		}{{n, 3, n >= 0 && n <= 3}, {0, n, n >= 0 && n <= 3}, {n, n, n >= 0 && n <= 3}, {1, n, n >= 1 && n <= 3}, {n, 1, n >= 0 && n <= 1}} {
			if got := impl.PageHeight(list, c.from, c.to); (got == -1) == c.valid || c.valid && got != 5*(c.to-c.from) {
				t.Errorf("PageHeight from %d to %d = %d", c.from, c.to, got)
			}
		}
	}
}

// Promise 53.
func TestP53TheBestPagesAreChecked(t *testing.T) {
	found := 0
	someLines(3000, func(list []impl.Line, height int) {
		ends, cost, ok := impl.BestPages(list, height)
		want, least, is := wantBestPages(list, height)
		equalPages(t, "BestPages", list, height, ends, cost, ok, want, least, is)
		if !ok {
			return
		}
		found++
		if checked, ok := impl.CheckPages(list, height, ends); !ok || checked != cost {
			t.Errorf("BestPages of %v for %d = %v, %d, but CheckPages = %d, %v", list, height, ends, cost, checked, ok)
		}
	})
	if found < 2000 {
		t.Errorf("only %d texts have pages", found)
	}
}

func TestP53TheLastPageBeginsEarlyAmongEquals(t *testing.T) {
	penalties := func(list ...int) []impl.Line {
		lines := plain(len(list), 1)
		for i, p := range list {
			lines[i].Penalty = p
		}
		return lines
	}
	for _, c := range []struct {
		list   []impl.Line
		height int
		want   []int
		least  int
	}{
		{penalties(0, 0, 0, 0), 2, []int{2, 4}, 0},
		{penalties(0, 0, 0), 2, []int{2, 3}, 0},
		{penalties(9, 9, 9), 3, []int{3}, 0},
		{penalties(9, 9, 1000), 1, []int{1, 2, 3}, 18},
		{penalties(0, 1, 2, 0), 2, []int{2, 4}, 1},
		// Also of the same cost, but with a last page that begins later: 2 and 3; 3 and 5; 2, 4 and 5; 3, 6 and 8.
		{penalties(0, 1, 0), 2, []int{1, 3}, 1},
		{penalties(0, 0, 1, 0, 0), 3, []int{2, 5}, 1},
		{penalties(0, 1, 0, 0, 0), 2, []int{1, 3, 5}, 1},
		{penalties(0, 0, 1, 0, 0, 0, 0, 0), 3, []int{2, 5, 8}, 1},
		// Also of the same cost, but with a last page but one that begins later: 3, 5 and 8.
		{penalties(0, 0, 0, 0, 0, 9, 0, 0), 3, []int{2, 5, 8}, 1},
	} {
		ends, cost, ok := impl.BestPages(c.list, c.height)
		equalPages(t, "BestPages", c.list, c.height, ends, cost, ok, c.want, c.least, true)
	}
}

func TestP53NotesTakeSpace(t *testing.T) {
	list := []impl.Line{{Height: 5, Note: 3}, {Height: 5}, {Height: 5, Note: 3}, {Height: 5}}
	for _, c := range []struct {
		height int
		want   []int
		least  int
	}{
		{9, nil, 0}, // the first line with its note and the rule is 10 high
		{10, []int{1, 2, 3, 4}, 25},
		{14, []int{1, 2, 3, 4}, 16 + 81 + 16},
		{15, []int{2, 4}, 0},
		{22, []int{2, 4}, 49}, // the first three lines are 23 high: their notes have one rule
		{23, []int{3, 4}, 0},
		{27, []int{3, 4}, 16},
		{28, []int{4}, 0},
		{10000, []int{4}, 0},
	} {
		ends, cost, ok := impl.BestPages(list, c.height)
		equalPages(t, "BestPages", list, c.height, ends, cost, ok, c.want, c.least, c.want != nil)
	}
}

func TestP53LargeTextsHavePages(t *testing.T) {
	r := fixed()
	for range 100 {
		var list []impl.Line
		for range 40 {
			list = append(list, impl.Line{Height: 1 + r.Intn(1000), Note: r.Intn(2) * r.Intn(1001), Penalty: r.Intn(1001)})
		}
		height := 2002 + r.Intn(7999)
		ends, cost, ok := impl.BestPages(list, height)
		if least := wantLeastCost(list, height); !ok || cost != least {
			t.Errorf("BestPages of %v for %d = %v, %d, %v, want %d", list, height, ends, cost, ok, least)
		}
		if checked, ok := impl.CheckPages(list, height, ends); !ok || checked != cost {
			t.Errorf("BestPages of %v for %d = %v, %d, but CheckPages = %d, %v", list, height, ends, cost, checked, ok)
		}
	}
	list := plain(40, 1)
	ends, cost, ok := impl.BestPages(list, 10000)
	equalPages(t, "BestPages", list, 10000, ends, cost, ok, []int{40}, 0, true)
	ends, cost, ok = impl.BestPages(list, 1)
	equalPages(t, "BestPages", list, 1, ends, cost, ok, ascending(41)[1:], 0, true)
}

// wantLeastCost returns the least cost of pages into which every single line fits.
func wantLeastCost(list []impl.Line, height int) int {
	n := len(list)
	least := make([]int, n) // of the lines from an index on
	for from := n - 1; from >= 0; from-- {
		least[from] = -1
		for to := from + 1; to <= n; to++ {
			rest := height - wantHeight(list[from:to])
			if rest < 0 {
				break
			}
			cost := 0
			if to < n {
				cost = rest*rest + list[to-1].Penalty + least[to]
			}
			if least[from] < 0 || cost < least[from] {
				least[from] = cost
			}
		}
	}
	return least[0]
}

func TestP53BestPagesFailsForInvalidArguments(t *testing.T) {
	for what, list := range invalidLines() {
		ends, cost, ok := impl.BestPages(list, 10000)
		equalPages(t, what+": BestPages", nil, 10000, ends, cost, ok, nil, 0, false)
	}
	for _, height := range extremes {
		for _, list := range [][]impl.Line{plain(1, 1), {{Height: 99, Note: 24}}, {{Height: 1}, {Height: 100}}, {{Height: 1, Note: 7}, {Height: 1}}} {
			highest := 0
			for i := range list {
				highest = max(highest, wantHeight(list[i:i+1]))
			}
			ends, cost, ok := impl.BestPages(list, height)
			if possible := height >= highest && height <= 10000; ok != possible || !ok && (ends != nil || cost != 0) {
				t.Errorf("BestPages of %v for %d = %v, %d, %v", list, height, ends, cost, ok)
			}
		}
	}
}

// Promise 54.
func TestP54NoPagesAreBetter(t *testing.T) {
	accepted := 0
	someLines(500, func(list []impl.Line, height int) {
		best, least, possible := impl.BestPages(list, height)
		allEnds(len(list), func(ends []int) {
			cost, ok := impl.CheckPages(list, height, ends)
			if want, is := wantPages(list, height, ends); cost != want || ok != is {
				t.Errorf("CheckPages of %v for %d, %v = %d, %v, want %d, %v", list, height, ends, cost, ok, want, is)
			}
			if !ok {
				return
			}
			accepted++
			if !possible || cost < least {
				t.Errorf("BestPages of %v for %d = %v, %d, but CheckPages of %v = %d", list, height, best, least, ends, cost)
			}
		})
	})
	if accepted < 1000 {
		t.Errorf("only %d pages were accepted", accepted)
	}
}

func TestP54CheckPagesFailsForInvalidArguments(t *testing.T) {
	for what, list := range invalidLines() {
		for _, ends := range [][]int{nil, {len(list)}, {1, len(list)}} {
			if cost, ok := impl.CheckPages(list, 10000, ends); ok || cost != 0 {
				t.Errorf("%s: CheckPages = %d, %v", what, cost, ok)
			}
		}
	}
	for n := 3; n <= 5; n++ {
		for _, ends := range badEnds(n) {
			if cost, ok := impl.CheckPages(plain(n, 1), 10000, ends); ok || cost != 0 {
				t.Errorf("CheckPages of %d lines for %v = %d, %v", n, ends[:min(len(ends), 5)], cost, ok)
			}
		}
	}
	list := []impl.Line{{Height: 3, Note: 5, Penalty: 7}, {Height: 25}}
	for _, height := range extremes {
		for _, ends := range [][]int{{2}, {1, 2}} {
			cost, ok := impl.CheckPages(list, height, ends)
			want, is := 0, false
			if height >= 1 && height <= 10000 {
				want, is = wantPages(list, height, ends)
			}
			if cost != want || ok != is {
				t.Errorf("CheckPages of %v for %d, %v = %d, %v, want %d, %v", list, height, ends, cost, ok, want, is)
			}
		}
	}
}

// Promise 55.
func TestP55AcceptedPagesAreNotTooHigh(t *testing.T) {
	single, rejected := 0, 0
	someLines(500, func(list []impl.Line, height int) {
		allEnds(len(list), func(ends []int) {
			cost, ok := impl.CheckPages(list, height, ends)
			from, high := 0, false
			for _, to := range ends {
				high = high || impl.PageHeight(list, from, to) > height
				from = to
			}
			if ok == high {
				t.Errorf("CheckPages of %v for %d, %v = %d, %v", list, height, ends, cost, ok)
			}
			if high {
				rejected++
			} else if len(ends) == 1 {
				single++
				if cost != 0 {
					t.Errorf("CheckPages of %v for %d, %v = %d", list, height, ends, cost)
				}
			}
		})
	})
	if single < 50 || rejected < 1000 {
		t.Errorf("only %d single pages, and %d that are too high", single, rejected)
	}
	// The last page costs nothing, but must not be too high either.
	if cost, ok := impl.CheckPages([]impl.Line{{Height: 5}, {Height: 5}, {Height: 6}}, 10, []int{1, 3}); ok || cost != 0 {
		t.Errorf("CheckPages of a last page that is too high = %d, %v", cost, ok)
	}
}

// wantFilled returns the pages each of which has as many lines as possible, and whether all lines fit.
func wantFilled(list []impl.Line, height int) ([]int, bool) {
	var ends []int
	from := 0
	for i := range list {
		if wantHeight(list[i:i+1]) > height {
			return nil, false
		}
		if wantHeight(list[from:i+1]) > height {
			ends = append(ends, i)
			from = i
		}
	}
	return append(ends, len(list)), true
}

// Promise 56.
func TestP56FilledPagesAreTheFewest(t *testing.T) {
	fewer := 0
	someLines(3000, func(list []impl.Line, height int) {
		ends, ok := impl.FillPages(list, height)
		want, is := wantFilled(list, height)
		if !slices.Equal(ends, want) || ok != is {
			t.Errorf("FillPages of %v for %d = %v, %v, want %v, %v", list, height, ends, ok, want, is)
		}
		if !ok {
			return
		}
		if cost, ok := impl.CheckPages(list, height, ends); !ok {
			t.Errorf("CheckPages of FillPages of %v for %d = %d, %v", list, height, cost, ok)
		}
		best, _, _ := impl.BestPages(list, height)
		if len(ends) > len(best) {
			t.Errorf("FillPages of %v for %d = %v, but BestPages = %v", list, height, ends, best)
		}
		if len(ends) < len(best) {
			fewer++
		}
	})
	if fewer < 10 {
		t.Errorf("only %d texts have fewer pages if these are filled", fewer)
	}
}

func TestP56FillPagesFailsForInvalidArguments(t *testing.T) {
	for what, list := range invalidLines() {
		if ends, ok := impl.FillPages(list, 10000); ok || ends != nil {
			t.Errorf("%s: FillPages = %v, %v", what, ends, ok)
		}
	}
	list := []impl.Line{{Height: 3, Note: 5, Penalty: 7}, {Height: 26}}
	for _, height := range extremes {
		ends, ok := impl.FillPages(list, height)
		if valid := height >= 26 && height <= 10000; ok != valid || !ok && ends != nil {
			t.Errorf("FillPages for %d = %v, %v", height, ends, ok)
		}
	}
	ends, ok := impl.FillPages(plain(40, 1000), 10000)
	if !ok || !slices.Equal(ends, []int{10, 20, 30, 40}) {
		t.Errorf("FillPages of 40 lines = %v, %v", ends, ok)
	}
}

// Promise 57.
func TestP57PagesCanBeFilledIfTheyArePossible(t *testing.T) {
	possible, not := 0, 0
	someLines(2000, func(list []impl.Line, _ int) {
		for height := 1; height <= 10; height++ {
			_, ok := impl.FillPages(list, height)
			if _, _, is := impl.BestPages(list, height); ok != is {
				t.Errorf("FillPages of %v for %d = %v, but BestPages = %v", list, height, ok, is)
			}
			if ok {
				possible++
			} else {
				not++
			}
		}
	})
	if possible < 1000 || not < 1000 {
		t.Errorf("%d texts have pages, and %d have not", possible, not)
	}
}

// Promise 141.
func TestP141APageThatIsHighEnoughHasAllLines(t *testing.T) {
	someLines(1000, func(list []impl.Line, _ int) {
		high := impl.PageHeight(list, 0, len(list))
		for _, height := range []int{high, high + 1, 10000} {
			ends, cost, ok := impl.BestPages(list, height)
			equalPages(t, "BestPages", list, height, ends, cost, ok, []int{len(list)}, 0, true)
		}
		if ends, _, _ := impl.BestPages(list, high-1); len(ends) == 1 {
			t.Errorf("BestPages of %v for %d = %v", list, high-1, ends)
		}
	})
	for _, list := range [][]impl.Line{plain(40, 250), plain(10, 1000), append(plain(9, 1000), impl.Line{Height: 1, Note: 997}), plain(40, 1)} {
		high := impl.PageHeight(list, 0, len(list))
		ends, cost, ok := impl.BestPages(list, high)
		equalPages(t, "BestPages", list, high, ends, cost, ok, []int{len(list)}, 0, true)
	}
}

func TestPagesAreNotChangedOrShared(t *testing.T) {
	list := []impl.Line{{Height: 5, Note: 3}, {Height: 5, Penalty: 9}, {Height: 5, Note: 3}, {Height: 5}}
	kept, given := slices.Clone(list), []int{2, 4}
	for range 2 {
		best, _, _ := impl.BestPages(list, 15)
		filled, _ := impl.FillPages(list, 15)
		for _, ends := range [][]int{best, filled} {
			equalInts(t, "pages", ends, 2, 4)
			clear(ends[:cap(ends)])
		}
		impl.CheckPages(list, 15, given)
		impl.PageHeight(list, 0, 4)
	}
	equalInts(t, "the argument of CheckPages", given, 2, 4)
	if !slices.Equal(list, kept) {
		t.Errorf("the lines became %v", list)
	}
}
