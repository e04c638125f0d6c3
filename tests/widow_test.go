package tests

import (
	"slices"
	"testing"

	"loop.example/typesetting/impl"
)

// someSizes goes over numbers of lines of paragraphs, with one, two or more lines.
func someSizes(n int, visit func(sizes []int)) {
	r := fixed()
	for _, sizes := range [][]int{{1}, {2}, {3}, {40}, {20, 20}, {39, 1}, {1, 39}, {38, 2}, {2, 2, 2}, {1, 2, 1}, slices.Repeat([]int{1}, 40), slices.Repeat([]int{2}, 20)} {
		visit(sizes)
	}
	for range n {
		var sizes []int
		for range 1 + r.Intn(5) {
			sizes = append(sizes, 1+r.Intn(4))
		}
		visit(sizes)
	}
}

// invalidSizes are lists that are not the numbers of lines of paragraphs.
var invalidSizes = [][]int{
	nil, {}, {0}, {-1}, {1, 0}, {0, 1}, {3, -1}, {-1, 3}, {41}, {40, 1}, {1, 40}, {20, 21}, {1, 2, 38}, {40, 1, -1}, {41, -1}, {1, -1, 1},
	slices.Repeat([]int{1}, 41), slices.Repeat([]int{1}, 10000), {extremes[0]}, {extremes[len(extremes)-1]}, {1, extremes[len(extremes)-1]},
	{1 << 62, 1 << 62, 1 << 62, 1 << 62, 1}, {1, extremes[len(extremes)-1], extremes[len(extremes)-1], 2},
}

// totalOf returns the sum of numbers.
func totalOf(list []int) int {
	sum := 0
	for _, n := range list {
		sum += n
	}
	return sum
}

// randomEnds returns indices that divide n elements.
func randomEnds(r randomSource, n int) []int {
	var ends []int
	for i := 1; i < n; i++ {
		if r.Intn(3) == 0 {
			ends = append(ends, i)
		}
	}
	return append(ends, n)
}

// Promise 58.
func TestP58EveryLineIsThere(t *testing.T) {
	someSizes(500, func(sizes []int) {
		for _, height := range []int{1, 5, 1000} {
			list := impl.TextLines(sizes, height)
			if len(list) != totalOf(sizes) || !impl.ValidLines(list) {
				t.Errorf("TextLines of %v = %v", sizes, list)
				continue
			}
			at := 0
			for _, size := range sizes {
				for i := range size {
					want := impl.Line{Height: height}
					if size > 1 && i == 0 {
						want.Penalty += 100
					}
					if size > 1 && i == size-2 {
						want.Penalty += 150
					}
					if list[at] != want {
						t.Errorf("line %d of TextLines of %v = %v, want %v", at, sizes, list[at], want)
					}
					at++
				}
			}
		}
	})
}

func TestP58PenaltiesOfShortParagraphs(t *testing.T) {
	for _, c := range []struct{ sizes, penalties []int }{
		{[]int{1}, []int{0}},
		{[]int{1, 1}, []int{0, 0}},
		{[]int{2}, []int{250, 0}},
		{[]int{2, 2}, []int{250, 0, 250, 0}},
		{[]int{1, 2, 1}, []int{0, 250, 0, 0}},
		{[]int{3}, []int{100, 150, 0}},
		{[]int{4, 1}, []int{100, 0, 150, 0, 0}},
		{[]int{5, 2}, []int{100, 0, 0, 150, 0, 250, 0}},
	} {
		var got []int
		for _, x := range impl.TextLines(c.sizes, 7) {
			got = append(got, x.Penalty)
		}
		equalInts(t, "penalties of TextLines", got, c.penalties...)
	}
}

func TestP58TextLinesFailsForInvalidArguments(t *testing.T) {
	for _, sizes := range invalidSizes {
		if got := impl.TextLines(sizes, 5); got != nil {
			t.Errorf("TextLines of %v = %v", sizes[:min(len(sizes), 5)], got)
		}
	}
	for _, height := range append([]int{999, 1000, 1001}, extremes...) {
		if got := impl.TextLines([]int{2, 1}, height); (got != nil) != (height >= 1 && height <= 1000) {
			t.Errorf("TextLines for the height %d = %v", height, got)
		}
	}
}

// wantWidows returns how many paragraphs have a page that ends behind their first line, and behind their last but one.
func wantWidows(sizes, ends []int) (int, int) {
	clubs, widows, at := 0, 0, 0
	for _, size := range sizes {
		for _, end := range ends {
			if size > 1 && end == at+1 {
				clubs++
				break
			}
		}
		for _, end := range ends {
			if size > 1 && end == at+size-1 {
				widows++
				break
			}
		}
		at += size
	}
	return clubs, widows
}

// Promise 59.
func TestP59OnlyParagraphsOfSeveralLinesAreCounted(t *testing.T) {
	r := fixed()
	someSizes(1000, func(sizes []int) {
		several := 0
		for _, size := range sizes {
			if size > 1 {
				several++
			}
		}
		n := totalOf(sizes)
		clubs, widows := impl.CountWidows(sizes, ascending(n + 1)[1:])
		if clubs != several || widows != several {
			t.Errorf("CountWidows of %v for pages of one line each = %d, %d, want %d", sizes, clubs, widows, several)
		}
		for range 5 {
			ends := randomEnds(r, n)
			clubs, widows := impl.CountWidows(sizes, ends)
			if first, last := wantWidows(sizes, ends); clubs != first || widows != last {
				t.Errorf("CountWidows of %v for %v = %d, %d, want %d, %d", sizes, ends, clubs, widows, first, last)
			}
			if clubs > several || widows > several {
				t.Errorf("CountWidows of %v for %v = %d, %d", sizes, ends, clubs, widows)
			}
		}
	})
}

func TestP59PagesOfShortParagraphs(t *testing.T) {
	for _, c := range []struct {
		sizes, ends   []int
		clubs, widows int
	}{
		{[]int{2}, []int{2}, 0, 0},
		{[]int{2}, []int{1, 2}, 1, 1},
		{[]int{1, 1}, []int{1, 2}, 0, 0},
		{[]int{1, 2}, []int{1, 3}, 0, 0},
		{[]int{1, 2}, []int{2, 3}, 1, 1},
		{[]int{2, 1}, []int{1, 3}, 1, 1},
		{[]int{3}, []int{1, 3}, 1, 0},
		{[]int{3}, []int{2, 3}, 0, 1},
		{[]int{3, 3}, []int{3, 6}, 0, 0},
		{[]int{4}, []int{2, 4}, 0, 0},
		{[]int{2, 2, 2}, []int{1, 3, 5, 6}, 3, 3},
		// The document asks nothing of these pages but where they end.
		{[]int{3, 2}, nil, 0, 0},
		{[]int{3, 2}, []int{4, 1, 1}, 2, 1},
		{[]int{3, 2}, []int{0, -1, 3, 5, 6, 100}, 0, 0},
	} {
		if clubs, widows := impl.CountWidows(c.sizes, c.ends); clubs != c.clubs || widows != c.widows {
			t.Errorf("CountWidows of %v for %v = %d, %d, want %d, %d", c.sizes, c.ends, clubs, widows, c.clubs, c.widows)
		}
	}
}

func TestP59CountWidowsFailsForInvalidSizes(t *testing.T) {
	for _, sizes := range invalidSizes {
		for _, ends := range [][]int{nil, {1}, {1, 2, 3}} {
			if clubs, widows := impl.CountWidows(sizes, ends); clubs != -1 || widows != -1 {
				t.Errorf("CountWidows of %v = %d, %d", sizes[:min(len(sizes), 5)], clubs, widows)
			}
		}
	}
}

// Promise 60.
func TestP60PenaltiesOfPagesAreThoseOfWidows(t *testing.T) {
	r := fixed()
	found := 0
	someSizes(1000, func(sizes []int) {
		list := impl.TextLines(sizes, 5)
		best, _, _ := impl.BestPages(list, 5*(2+r.Intn(4)))
		for _, ends := range [][]int{best, randomEnds(r, len(list)), randomEnds(r, len(list))} {
			sum := 0
			for _, end := range ends {
				sum += list[end-1].Penalty
			}
			clubs, widows := impl.CountWidows(sizes, ends)
			if want := impl.ClubPenalty*clubs + impl.WidowPenalty*widows; sum != want {
				t.Errorf("the pages %v of %v have the penalties %d, but CountWidows = %d, %d", ends, sizes, sum, clubs, widows)
			}
			found += clubs + widows
		}
	})
	if found < 1000 {
		t.Errorf("only %d widows and clubs", found)
	}
}

// Promise 61.
func TestP61LinesAreOnTheirPage(t *testing.T) {
	r := fixed()
	for range 1000 {
		n := 1 + r.Intn(40)
		ends := randomEnds(r, n)
		for line := range n {
			before := 0
			for _, end := range ends {
				if end <= line {
					before++
				}
			}
			if got := impl.PageOf(ends, line); got != before {
				t.Errorf("PageOf line %d in %v = %d, want %d", line, ends, got, before)
			}
		}
		for _, line := range append([]int{-1, n, n + 1}, extremes...) {
			if got := impl.PageOf(ends, line); (line < 0 || line >= n) && got != -1 {
				t.Errorf("PageOf line %d in %v = %d", line, ends, got)
			}
		}
	}
	most := extremes[len(extremes)-1]
	for _, c := range []struct {
		ends       []int
		line, page int
	}{
		{[]int{1}, 0, 0},
		{[]int{3, 5}, 2, 0},
		{[]int{3, 5}, 3, 1},
		{[]int{3, 5}, 4, 1},
		{[]int{3, most}, most - 1, 1},
		{[]int{most - 1, most}, most - 1, 1},
		{ascending(10001)[1:], 9999, 9999}, // the document sets no limit
	} {
		if got := impl.PageOf(c.ends, c.line); got != c.page {
			t.Errorf("PageOf line %d in %v = %d, want %d", c.line, c.ends, got, c.page)
		}
	}
}

func TestP61PageOfFailsForInvalidArguments(t *testing.T) {
	least, most := extremes[0], extremes[len(extremes)-1]
	for _, ends := range [][]int{
		nil, {}, {0}, {-1}, {0, 3}, {-1, 3}, {3, 3}, {3, 2}, {1, 3, 2}, {3, 1, 4}, {1, 2, 2}, {1, 0}, {5, 0}, {3, -1}, {least, 3}, {3, least}, {most, 3}, {most, 3, most}, {most, most}, {most, least}, {1, 2, 3, 0},
	} {
		for _, line := range append([]int{0, 1, 2, 3, 4}, extremes...) {
			if got := impl.PageOf(ends, line); got != -1 {
				t.Errorf("PageOf line %d in %v = %d", line, ends, got)
			}
		}
	}
}

func TestTextsAreNotChangedOrShared(t *testing.T) {
	sizes, ends := []int{3, 2}, []int{3, 5}
	for range 2 {
		list := impl.TextLines(sizes, 5)
		if len(list) != 5 || list[0].Penalty != 100 || list[4] != (impl.Line{Height: 5}) {
			t.Errorf("TextLines = %v", list)
		}
		clear(list[:cap(list)])
		impl.CountWidows(sizes, ends)
		impl.PageOf(ends, 4)
	}
	equalInts(t, "the numbers of lines", sizes, 3, 2)
	equalInts(t, "the pages", ends, 3, 5)
}
