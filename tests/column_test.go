package tests

import (
	"slices"
	"testing"

	"loop.example/typesetting/impl"
)

// someHeights goes over heights of lines.
func someHeights(n int, visit func(list []int)) {
	for _, list := range [][]int{nil, {1}, {1000}, {1, 1}, {1000, 1000}, {1, 1000, 1}, {3, 4, 5, 2}, slices.Repeat([]int{1}, 9), slices.Repeat([]int{1000}, 10)} {
		visit(list)
	}
	r := fixed()
	for range n {
		var list []int
		for range r.Intn(10) {
			list = append(list, 1+r.Intn(9))
		}
		visit(list)
	}
}

// invalidHeights returns lists that are not heights of lines.
func invalidHeights() [][]int {
	list := [][]int{slices.Repeat([]int{1}, 41), slices.Repeat([]int{1}, 10000)}
	for _, n := range append([]int{999, 1000, 1001}, extremes...) {
		if n < 1 || n > 1000 {
			list = append(list, []int{n}, []int{n, 3}, []int{3, n}, []int{3, n, 3}, []int{n, -n})
		}
	}
	return list
}

// wantHighest returns the largest height of columns.
func wantHighest(list, ends []int) int {
	highest, from := 0, 0
	for _, to := range ends {
		highest = max(highest, totalOf(list[from:to]))
		from = to
	}
	return highest
}

// eachColumns goes over all ways to divide lines into columns, of which there are none without lines.
func eachColumns(list []int, visit func(ends []int)) {
	if len(list) == 0 {
		visit(nil)
		return
	}
	allEnds(len(list), visit)
}

// wantFilledColumns returns the columns of a height each of which has as many lines as possible, and whether all lines fit.
func wantFilledColumns(list []int, height int) ([]int, bool) {
	var ends []int
	used := 0
	for i, n := range list {
		if n > height {
			return nil, false
		}
		if used+n > height {
			ends = append(ends, i)
			used = 0
		}
		used += n
	}
	if len(list) > 0 {
		ends = append(ends, len(list))
	}
	return ends, true
}

// Promise 65.
func TestP65HigherColumnsNeedNotBeMore(t *testing.T) {
	someHeights(500, func(list []int) {
		before := -1
		for height := 0; height <= totalOf(list)+2 && height <= 10000; height++ {
			want := -1
			if ends, ok := wantFilledColumns(list, height); ok {
				want = len(ends)
			}
			got := impl.ColumnsNeeded(list, height)
			if got != want {
				t.Errorf("ColumnsNeeded of %v for %d = %d, want %d", list, height, got, want)
			}
			if got > len(list) || before >= 0 && got > before {
				t.Errorf("ColumnsNeeded of %v for %d = %d, and %d for one less", list, height, got, before)
			}
			before = got
		}
	})
}

func TestP65ColumnsNeededFailsForInvalidArguments(t *testing.T) {
	for _, list := range invalidHeights() {
		for _, height := range []int{0, 1, 1000, 10000} {
			if got := impl.ColumnsNeeded(list, height); got != -1 {
				t.Errorf("ColumnsNeeded of %v for %d = %d", list[:min(len(list), 5)], height, got)
			}
		}
	}
	for _, height := range extremes {
		for _, list := range [][]int{nil, {1}, {100}, {1, 100, 1}} {
			valid := height >= 0 && height <= 10000 && (len(list) == 0 || height >= slices.Max(list))
			if got := impl.ColumnsNeeded(list, height); (got != -1) != valid || got < -1 {
				t.Errorf("ColumnsNeeded of %v for %d = %d", list, height, got)
			}
		}
	}
	// The sum of the heights has no limit here.
	high := slices.Repeat([]int{1000}, 40)
	if a, b, c := impl.ColumnsNeeded(high, 10000), impl.ColumnsNeeded(high, 1000), impl.ColumnsNeeded(high, 999); a != 4 || b != 40 || c != -1 {
		t.Errorf("ColumnsNeeded of 40 high lines = %d, %d, %d", a, b, c)
	}
}

// wantBalanced returns the least height of at most that many columns by trying all of them.
func wantBalanced(list []int, columns int) int {
	least := totalOf(list)
	eachColumns(list, func(ends []int) {
		if len(ends) <= columns {
			least = min(least, wantHighest(list, ends))
		}
	})
	return least
}

// Promise 66.
func TestP66NoSmallerHeightSuffices(t *testing.T) {
	someHeights(300, func(list []int) {
		for columns := 1; columns <= 8; columns++ {
			height := impl.BalancedHeight(list, columns)
			if want := wantBalanced(list, columns); height != want {
				t.Errorf("BalancedHeight of %v for %d = %d, want %d", list, columns, height, want)
			}
			if n := impl.ColumnsNeeded(list, height); n < 0 || n > columns {
				t.Errorf("BalancedHeight of %v for %d = %d, but ColumnsNeeded = %d", list, columns, height, n)
			}
			if n := impl.ColumnsNeeded(list, height-1); n != -1 && n <= columns {
				t.Errorf("BalancedHeight of %v for %d = %d, but ColumnsNeeded for one less = %d", list, columns, height, n)
			}
		}
	})
}

func TestP66BalancedHeightFailsForInvalidArguments(t *testing.T) {
	for _, list := range invalidHeights() {
		if got, ends := impl.BalancedHeight(list, 3), impl.BalanceColumns(list, 3); got != -1 || ends != nil {
			t.Errorf("BalancedHeight of %v = %d, BalanceColumns = %v", list[:min(len(list), 5)], got, ends)
		}
	}
	for _, columns := range append([]int{7, 8, 9}, extremes...) {
		valid := columns >= 1 && columns <= 8
		for _, list := range [][]int{nil, {5}, {5, 5}} {
			if got := impl.BalancedHeight(list, columns); (got != -1) != valid {
				t.Errorf("BalancedHeight of %v for %d = %d", list, columns, got)
			}
			if got := impl.BalanceColumns(list, columns); len(got) > 0 && !valid || valid && len(list) > 0 && len(got) == 0 {
				t.Errorf("BalanceColumns of %v for %d = %v", list, columns, got)
			}
		}
	}
	for _, c := range []struct {
		list    []int
		columns int
		height  int
		ends    []int
	}{
		{slices.Repeat([]int{1000}, 10), 1, 10000, []int{10}},
		{slices.Repeat([]int{250}, 40), 1, 10000, []int{40}},
		{slices.Repeat([]int{250}, 40), 8, 1250, []int{5, 10, 15, 20, 25, 30, 35, 40}},
		{append(slices.Repeat([]int{1000}, 10), 1), 1, -1, nil},
		{append(slices.Repeat([]int{1000}, 10), 1), 8, -1, nil},
		{append(slices.Repeat([]int{250}, 39), 251), 4, -1, nil},
		{slices.Repeat([]int{1000}, 40), 8, -1, nil},
	} {
		if got := impl.BalancedHeight(c.list, c.columns); got != c.height {
			t.Errorf("BalancedHeight of %v for %d = %d, want %d", c.list, c.columns, got, c.height)
		}
		equalInts(t, "BalanceColumns", impl.BalanceColumns(c.list, c.columns), c.ends...)
	}
}

// Promise 67.
func TestP67BalancedColumnsHaveTheLeastHeight(t *testing.T) {
	r := fixed()
	someHeights(500, func(list []int) {
		for columns := 1; columns <= 8; columns++ {
			ends := impl.BalanceColumns(list, columns)
			height := impl.BalancedHeight(list, columns)
			want, _ := wantFilledColumns(list, height)
			equalInts(t, "BalanceColumns", ends, want...)
			if highest, ok := impl.CheckColumns(list, ends); !ok || highest != height {
				t.Errorf("BalanceColumns of %v for %d = %v, whose height is %d, %v, but BalancedHeight = %d", list, columns, ends, highest, ok, height)
			}
		}
	})
	for range 100 {
		var list []int
		for range 40 {
			list = append(list, 1+r.Intn(250))
		}
		columns := 1 + r.Intn(8)
		ends := impl.BalanceColumns(list, columns)
		if highest, ok := impl.CheckColumns(list, ends); !ok || highest != impl.BalancedHeight(list, columns) || len(ends) > columns {
			t.Errorf("BalanceColumns of %v for %d = %v, whose height is %d, %v", list, columns, ends, highest, ok)
		}
	}
	equalInts(t, "columns that are not all needed", impl.BalanceColumns([]int{9, 1, 1}, 8), 1, 3)
	equalInts(t, "columns of no lines", impl.BalanceColumns(nil, 3))
}

// Promise 68.
func TestP68NoColumnsAreLower(t *testing.T) {
	someHeights(300, func(list []int) {
		var least [9]int
		for columns := 1; columns <= 8; columns++ {
			least[columns] = impl.BalancedHeight(list, columns)
		}
		eachColumns(list, func(ends []int) {
			highest, ok := impl.CheckColumns(list, ends)
			if want := wantHighest(list, ends); !ok || highest != want {
				t.Errorf("CheckColumns of %v for %v = %d, %v, want %d", list, ends, highest, ok, want)
			}
			for columns := max(len(ends), 1); columns <= 8; columns++ {
				if highest < least[columns] {
					t.Errorf("BalancedHeight of %v for %d = %d, but %v have the height %d", list, columns, least[columns], ends, highest)
				}
			}
		})
	})
}

// Promise 69.
func TestP69ColumnsHaveAllLines(t *testing.T) {
	someHeights(300, func(list []int) {
		eachColumns(list, func(ends []int) {
			highest, ok := impl.CheckColumns(list, ends)
			if !ok || highest > totalOf(list) || len(list) > 0 && highest < slices.Max(list) {
				t.Errorf("CheckColumns of %v for %v = %d, %v", list, ends, highest, ok)
			}
		})
	})
	high := slices.Repeat([]int{1000}, 40)
	for _, ends := range [][]int{{40}, {1, 40}, {20, 40}, ascending(41)[1:]} {
		if highest, ok := impl.CheckColumns(high, ends); !ok || highest != wantHighest(high, ends) {
			t.Errorf("CheckColumns of 40 high lines for %v = %d, %v", ends, highest, ok)
		}
	}
}

func TestP69CheckColumnsFailsForInvalidArguments(t *testing.T) {
	for _, list := range invalidHeights() {
		for _, ends := range [][]int{nil, {len(list)}, {1, len(list)}} {
			if highest, ok := impl.CheckColumns(list, ends); ok || highest != 0 {
				t.Errorf("CheckColumns of %v for %v = %d, %v", list[:min(len(list), 5)], ends, highest, ok)
			}
		}
	}
	for n := 3; n <= 5; n++ {
		for _, ends := range badEnds(n) {
			if highest, ok := impl.CheckColumns(slices.Repeat([]int{7}, n), ends); ok || highest != 0 {
				t.Errorf("CheckColumns of %d lines for %v = %d, %v", n, ends[:min(len(ends), 5)], highest, ok)
			}
		}
	}
	for _, ends := range [][]int{{0}, {1}, {-1}, {0, 0}, {extremes[0]}} {
		if highest, ok := impl.CheckColumns(nil, ends); ok || highest != 0 {
			t.Errorf("CheckColumns of no lines for %v = %d, %v", ends, highest, ok)
		}
	}
	if highest, ok := impl.CheckColumns(nil, nil); !ok || highest != 0 {
		t.Errorf("CheckColumns of no lines = %d, %v", highest, ok)
	}
}

// Promise 142.
func TestP142OneColumnHasAllLines(t *testing.T) {
	someHeights(1000, func(list []int) {
		before := impl.BalancedHeight(list, 1)
		if want := totalOf(list); before != want {
			t.Errorf("BalancedHeight of %v for one column = %d, want %d", list, before, want)
		}
		for columns := 2; columns <= 8; columns++ {
			height := impl.BalancedHeight(list, columns)
			if height > before || height < 0 {
				t.Errorf("BalancedHeight of %v for %d = %d, but %d for one less", list, columns, height, before)
			}
			before = height
		}
	})
}

func TestColumnsAreNotChangedOrShared(t *testing.T) {
	list, given := []int{3, 4, 5, 2}, []int{2, 4}
	for range 2 {
		ends := impl.BalanceColumns(list, 2)
		equalInts(t, "BalanceColumns", ends, 2, 4)
		clear(ends[:cap(ends)])
		impl.ColumnsNeeded(list, 7)
		impl.BalancedHeight(list, 2)
		impl.CheckColumns(list, given)
	}
	equalInts(t, "the heights", list, 3, 4, 5, 2)
	equalInts(t, "the columns", given, 2, 4)
}
