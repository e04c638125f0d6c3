package tests

import (
	"fmt"
	"slices"
	"testing"

	"loop.example/typesetting/impl"
)

// figures returns figures with the given heights and pages, in turn.
func figures(heightsAndPages ...int) []impl.Figure {
	var list []impl.Figure
	for i := 0; i < len(heightsAndPages); i += 2 {
		list = append(list, impl.Figure{Height: heightsAndPages[i], Page: heightsAndPages[i+1]})
	}
	return list
}

// randomFigures returns up to n small figures for the given number of pages.
func randomFigures(r randomSource, n, pages int) []impl.Figure {
	var list []impl.Figure
	page := 0
	for range r.Intn(n + 1) {
		if r.Intn(3) == 0 {
			page = min(page+r.Intn(3), pages-1)
		}
		list = append(list, impl.Figure{Height: 1 + r.Intn(9), Page: page})
	}
	return list
}

// randomSpace returns the spaces of n pages, many of which have none.
func randomSpace(r randomSource, n int) []int {
	var space []int
	for range n {
		space = append(space, max(r.Intn(24)-6, 0))
	}
	return space
}

// someFigures goes over figures and spaces of pages.
func someFigures(n int, visit func(list []impl.Figure, space []int)) {
	visit(nil, nil)
	visit(nil, []int{0, 0})
	visit(figures(1, 0), nil)
	visit(figures(1, 0), []int{0, 0, 0})
	visit(figures(1000, 11), slices.Repeat([]int{1000}, 12))
	visit(slices.Repeat(figures(1000, 0), 10), []int{10000})
	visit(slices.Repeat(figures(1000, 0), 10), []int{9999, 999})
	visit(figures(5, 3), []int{9, 9, 9})
	r := fixed()
	for range n {
		pages := 1 + r.Intn(5)
		visit(randomFigures(r, 5, pages+1), randomSpace(r, pages))
	}
}

// invalidFigures returns figures that are not valid, by what is wrong.
func invalidFigures() map[string][]impl.Figure {
	list := map[string][]impl.Figure{
		"11 figures":                 slices.Repeat(figures(1, 0), 11),
		"10000 figures":              slices.Repeat(figures(1, 0), 10000),
		"a page that decreases":      figures(1, 0, 1, 2, 1, 1),
		"a page that decreases to 0": figures(1, 1, 1, 0),
		"a zero figure":              {{}},
	}
	for _, n := range append([]int{999, 1000, 1001, 10, 11, 12}, extremes...) {
		if n < 1 || n > 1000 {
			list[fmt.Sprint("height ", n)] = figures(1, 0, n, 0)
			list[fmt.Sprint("first height ", n)] = figures(n, 0, 1, 0)
		}
		if n < 0 || n > 11 {
			list[fmt.Sprint("page ", n)] = figures(1, n)
			list[fmt.Sprint("last page ", n)] = figures(1, 0, 1, n)
		}
	}
	return list
}

// invalidSpaces returns lists that are not spaces of pages.
func invalidSpaces() [][]int {
	list := [][]int{slices.Repeat([]int{9}, 13), slices.Repeat([]int{9}, 10000)}
	for _, n := range extremes {
		if n < 0 || n > 10000 {
			list = append(list, []int{n}, []int{n, 9}, []int{9, n}, []int{9, 9, n})
		}
	}
	return list
}

// allPages goes over all lists of n pages, also of some that are not among those with spaces.
func allPages(n, pages int, visit func(list []int)) {
	list := slices.Repeat([]int{-1}, n)
	for {
		visit(slices.Clone(list))
		i := 0
		for i < n && list[i] == pages {
			list[i] = -1
			i++
		}
		if i == n {
			return
		}
		list[i]++
	}
}

// wantPlaced reports whether figures can be placed on given pages.
func wantPlaced(list []impl.Figure, space, pages []int) bool {
	if len(pages) != len(list) || !slices.IsSorted(pages) {
		return false
	}
	used := map[int]int{}
	for i, page := range pages {
		if page < list[i].Page || page >= len(space) {
			return false
		}
		used[page] += list[i].Height
		if used[page] > space[page] {
			return false
		}
	}
	return true
}

// wantPlaces places figures one after the other.
func wantPlaces(list []impl.Figure, space []int) ([]int, bool) {
	var pages []int
	rest := slices.Clone(space)
	page := 0
	for _, f := range list {
		page = max(page, f.Page)
		for page < len(rest) && rest[page] < f.Height {
			page++
		}
		if page >= len(rest) {
			return nil, false
		}
		rest[page] -= f.Height
		pages = append(pages, page)
	}
	return pages, true
}

func TestValidFiguresHaveLimits(t *testing.T) {
	for what, list := range invalidFigures() {
		if impl.ValidFigures(list) {
			t.Errorf("%s is valid", what)
		}
	}
	for _, list := range [][]impl.Figure{nil, figures(1, 0), figures(1000, 11), figures(1, 0, 1, 0, 1, 11), slices.Repeat(figures(1000, 11), 10), figures(5, 3, 1, 4, 9, 4)} {
		if !impl.ValidFigures(list) {
			t.Errorf("%v is not valid", list)
		}
	}
}

// Promise 62.
func TestP62PlacedFiguresAreAccepted(t *testing.T) {
	placed, not := 0, 0
	someFigures(5000, func(list []impl.Figure, space []int) {
		if !impl.ValidFigures(list) {
			t.Fatalf("%v is not valid", list)
		}
		pages, ok := impl.PlaceFigures(list, space)
		want, is := wantPlaces(list, space)
		if !slices.Equal(pages, want) || ok != is {
			t.Errorf("PlaceFigures of %v into %v = %v, %v, want %v, %v", list, space, pages, ok, want, is)
		}
		if !ok {
			not++
			return
		}
		placed++
		if !impl.CheckFigures(list, space, pages) || impl.TotalDelay(list, space, pages) < 0 {
			t.Errorf("PlaceFigures of %v into %v = %v, which is not accepted", list, space, pages)
		}
	})
	if placed < 500 || not < 500 {
		t.Errorf("only %d figures were placed, and %d were not", placed, not)
	}
}

func TestP62FiguresKeepTheirOrder(t *testing.T) {
	for _, c := range []struct {
		list  []impl.Figure
		space []int
		want  []int
		ok    bool
	}{
		{nil, nil, nil, true},
		{nil, []int{5}, nil, true},
		{figures(5, 0), nil, nil, false},
		{figures(5, 0), []int{5}, []int{0}, true},
		{figures(5, 0), []int{4, 4, 5}, []int{2}, true},
		{figures(5, 1), []int{9}, nil, false},
		{figures(5, 1), []int{9, 4}, nil, false},
		{figures(5, 1), []int{9, 4, 9}, []int{2}, true},
		{figures(5, 0, 1, 0), []int{4, 9}, []int{1, 1}, true}, // the second figure must not pass the first one
		{figures(5, 0, 5, 0, 1, 0), []int{6, 5, 1}, []int{0, 1, 2}, true},
		{figures(5, 0, 5, 0, 1, 0), []int{10, 9}, []int{0, 0, 1}, true},
		{figures(5, 0, 5, 0, 1, 0), []int{11}, []int{0, 0, 0}, true},
		{figures(5, 0, 5, 0, 1, 0), []int{10}, nil, false},
		{figures(5, 0, 5, 2, 1, 2), []int{20, 20, 5, 9}, []int{0, 2, 3}, true},
		{figures(1000, 0, 1000, 11), slices.Repeat([]int{1000}, 12), []int{0, 11}, true},
	} {
		pages, ok := impl.PlaceFigures(c.list, c.space)
		if !slices.Equal(pages, c.want) || ok != c.ok {
			t.Errorf("PlaceFigures of %v into %v = %v, %v, want %v, %v", c.list, c.space, pages, ok, c.want, c.ok)
		}
	}
}

func TestP62PlaceFiguresFailsForInvalidArguments(t *testing.T) {
	space := slices.Repeat([]int{10000}, 12)
	for what, list := range invalidFigures() {
		if pages, ok := impl.PlaceFigures(list, space); ok || pages != nil {
			t.Errorf("%s: PlaceFigures = %v, %v", what, pages, ok)
		}
	}
	for _, space := range invalidSpaces() {
		for _, list := range [][]impl.Figure{nil, figures(1, 0)} {
			if pages, ok := impl.PlaceFigures(list, space); ok || pages != nil {
				t.Errorf("PlaceFigures of %v into %v = %v, %v", list, space[:min(len(space), 5)], pages, ok)
			}
		}
	}
}

// Promise 63.
func TestP63NoFiguresAreEarlier(t *testing.T) {
	accepted := 0
	someFigures(1500, func(list []impl.Figure, space []int) {
		if len(list) > 5 || len(space) > 5 {
			return
		}
		first, possible := impl.PlaceFigures(list, space)
		allPages(len(list), len(space), func(pages []int) {
			ok := impl.CheckFigures(list, space, pages)
			if ok != wantPlaced(list, space, pages) {
				t.Errorf("CheckFigures of %v in %v on %v = %v", list, space, pages, ok)
			}
			if !ok {
				return
			}
			accepted++
			if !possible {
				t.Errorf("PlaceFigures of %v into %v fails, but %v are accepted", list, space, pages)
				return
			}
			for i, page := range first {
				if page > pages[i] {
					t.Errorf("PlaceFigures of %v into %v = %v, but %v are accepted", list, space, first, pages)
				}
			}
		})
	})
	if accepted < 1000 {
		t.Errorf("only %d lists of pages were accepted", accepted)
	}
}

func TestP63CheckFiguresFailsForInvalidArguments(t *testing.T) {
	space := slices.Repeat([]int{10000}, 12)
	for what, list := range invalidFigures() {
		for page := range 12 {
			pages := slices.Repeat([]int{page}, len(list))
			if impl.CheckFigures(list, space, pages) || impl.TotalDelay(list, space, pages) != -1 {
				t.Errorf("%s on %d: CheckFigures, TotalDelay = %d", what, page, impl.TotalDelay(list, space, pages))
			}
		}
	}
	for _, space := range invalidSpaces() {
		if impl.CheckFigures(nil, space, nil) || impl.TotalDelay(nil, space, nil) != -1 {
			t.Errorf("CheckFigures of nothing in %v", space[:min(len(space), 5)])
		}
		for page := range 3 {
			if impl.CheckFigures(figures(1, 0), space, []int{page}) || impl.TotalDelay(figures(1, 0), space, []int{page}) != -1 {
				t.Errorf("CheckFigures of a figure on %d of %v", page, space[:min(len(space), 5)])
			}
		}
	}
	list := figures(5, 0, 5, 1)
	for _, pages := range [][]int{nil, {}, {0}, {1}, {0, 1, 1}, {0, 1, 2}, {0, 0}, {1, 0}, {2, 1}, {-1, 1}, {0, 3}, {3, 3}, {1, 3}, slices.Repeat([]int{1}, 10000)} {
		if impl.CheckFigures(list, []int{9, 9, 9}, pages) || impl.TotalDelay(list, []int{9, 9, 9}, pages) != -1 {
			t.Errorf("CheckFigures of %v on %v", list, pages[:min(len(pages), 5)])
		}
	}
	for _, n := range extremes {
		for _, c := range []struct {
			pages []int
			valid bool
		}{{[]int{n, 2}, n >= 0 && n <= 1}, {[]int{0, n}, n >= 1 && n <= 2}, {[]int{n, n}, false}} {
			if got := impl.CheckFigures(list, []int{9, 9, 9}, c.pages); got != c.valid {
				t.Errorf("CheckFigures of %v on %v = %v", list, c.pages, got)
			}
			if got := impl.TotalDelay(list, []int{9, 9, 9}, c.pages); (got >= 0) != c.valid || got < -1 {
				t.Errorf("TotalDelay of %v on %v = %v", list, c.pages, got)
			}
		}
	}
	if impl.CheckFigures(nil, []int{9}, []int{0}) || !impl.CheckFigures(nil, nil, nil) || !impl.CheckFigures(nil, []int{0}, nil) {
		t.Error("CheckFigures of no figures")
	}
}

// Promise 64.
func TestP64DelaysAddUp(t *testing.T) {
	late := 0
	someFigures(1500, func(list []impl.Figure, space []int) {
		if len(list) > 5 || len(space) > 5 {
			return
		}
		first, possible := impl.PlaceFigures(list, space)
		least := impl.TotalDelay(list, space, first)
		if !possible && len(list) > 0 && least != -1 {
			t.Errorf("TotalDelay of %v on no pages = %d", list, least)
		}
		allPages(len(list), len(space), func(pages []int) {
			want := -1
			if wantPlaced(list, space, pages) {
				want = totalOf(pages)
				for _, f := range list {
					want -= f.Page
				}
				if want < least {
					t.Errorf("TotalDelay of %v on %v is %d, but PlaceFigures has %d", list, pages, want, least)
				}
			}
			if got := impl.TotalDelay(list, space, pages); got != want {
				t.Errorf("TotalDelay of %v in %v on %v = %d, want %d", list, space, pages, got, want)
			}
			late = max(late, want)
		})
	})
	if late < 5 {
		t.Errorf("no figures are later than by %d", late)
	}
	if got := impl.TotalDelay(nil, nil, nil); got != 0 {
		t.Errorf("TotalDelay of no figures = %d", got)
	}
	ten := slices.Repeat(figures(1000, 0), 10)
	if got := impl.TotalDelay(ten, slices.Repeat([]int{10000}, 12), slices.Repeat([]int{11}, 10)); got != 110 {
		t.Errorf("TotalDelay of ten late figures = %d", got)
	}
}

// Promise 143.
func TestP143MoreSpacePlacesNothingLater(t *testing.T) {
	r := fixed()
	earlier := 0
	someFigures(3000, func(list []impl.Figure, space []int) {
		pages, ok := impl.PlaceFigures(list, space)
		if !ok {
			return
		}
		more := slices.Clone(space)
		for i := range more {
			more[i] = min(more[i]+r.Intn(5), 10000)
		}
		with, ok := impl.PlaceFigures(list, more)
		if !ok || len(with) != len(list) {
			t.Errorf("PlaceFigures of %v into %v = %v, %v, but less space is enough", list, more, with, ok)
			return
		}
		for i, page := range with {
			if page > pages[i] {
				t.Errorf("PlaceFigures of %v into %v = %v, but with less space %v", list, more, with, pages)
			}
			if page < pages[i] {
				earlier++
			}
		}
	})
	if earlier < 100 {
		t.Errorf("only %d figures are earlier with more space", earlier)
	}
}

func TestFiguresAreNotChangedOrShared(t *testing.T) {
	list, space, given := figures(6, 0, 6, 0, 3, 0), []int{10, 0, 10}, []int{0, 2, 2}
	kept := slices.Clone(list)
	for range 2 {
		pages, _ := impl.PlaceFigures(list, space)
		equalInts(t, "PlaceFigures", pages, 0, 2, 2)
		clear(pages[:cap(pages)])
		impl.CheckFigures(list, space, given)
		impl.TotalDelay(list, space, given)
	}
	equalInts(t, "the spaces", space, 10, 0, 10)
	equalInts(t, "the pages", given, 0, 2, 2)
	if !slices.Equal(list, kept) {
		t.Errorf("the figures became %v", list)
	}
}
