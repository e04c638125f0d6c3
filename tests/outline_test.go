package tests

import (
	"fmt"
	"slices"
	"strconv"
	"strings"
	"testing"

	"loop.example/typesetting/impl"
)

// allOutlines goes over all outlines of at most n headings.
func allOutlines(n int, visit func(levels []int)) {
	allLevels(n, 1, 4, func(levels []int) {
		if isOutline(levels) {
			visit(levels)
		}
	})
}

// someOutlines goes over outlines of up to 20 headings.
func someOutlines(n int, visit func(levels []int)) {
	allOutlines(6, visit)
	visit(slices.Repeat([]int{1}, 20))
	visit(append([]int{1}, slices.Repeat([]int{2}, 19)...))
	visit(append([]int{1, 2, 3}, slices.Repeat([]int{4}, 17)...))
	visit(slices.Repeat([]int{1, 2, 3, 4}, 5))
	r := fixed()
	for range n {
		var levels []int
		last := 0
		for range r.Intn(21) {
			last = 1 + r.Intn(min(last+1, 4))
			levels = append(levels, last)
		}
		visit(levels)
	}
}

// isOutline reports whether there are at most 20 levels in 1..4, which begin with 1 and never go down by more than one level at once.
func isOutline(levels []int) bool {
	for i, level := range levels {
		if level < 1 || level > 4 || i == 0 && level != 1 || i > 0 && level-levels[i-1] > 1 {
			return false
		}
	}
	return len(levels) <= 20
}

// invalidOutlines returns levels that are no outline.
func invalidOutlines() [][]int {
	list := [][]int{
		slices.Repeat([]int{1}, 21), slices.Repeat([]int{1, 2, 3}, 7), make([]int, 10000),
		{2}, {3}, {4}, {2, 1}, {2, 2}, {1, 3}, {1, 4}, {1, 2, 4}, {1, 2, 1, 3}, {1, 1, 3}, {1, 2, 3, 1, 4}, {1, 2, 3, 2, 4}, {1, 2, 3, 4, 5}, {1, 0}, {0, 1}, {1, 0, 1}, {1, -1},
	}
	for _, n := range append([]int{3, 4, 5, 6}, extremes...) {
		if n != 1 {
			list = append(list, []int{n}, []int{n, 1})
		}
		if n != 1 && n != 2 {
			list = append(list, []int{1, n}, []int{1, n, 1}, append(slices.Repeat([]int{1}, 19), n))
		}
	}
	return list
}

// wantParent looks back for a lower level.
func wantParent(levels []int, i int) int {
	for k := i - 1; k >= 0; k-- {
		if levels[k] < levels[i] {
			return k
		}
	}
	return -1
}

// wantNumbers counts each level, and begins again with all lower ones behind it.
func wantNumbers(levels []int) []string {
	var numbers []string
	var counts [5]int
	for _, level := range levels {
		counts[level]++
		clear(counts[level+1:])
		var parts []string
		for _, count := range counts[1 : level+1] {
			parts = append(parts, strconv.Itoa(count))
		}
		numbers = append(numbers, strings.Join(parts, "."))
	}
	return numbers
}

// ownedUpTo returns the first index behind a heading that it does not own.
func ownedUpTo(levels []int, i int) int {
	for k := i + 1; k < len(levels); k++ {
		if levels[k] <= levels[i] {
			return k
		}
	}
	return len(levels)
}

// wantMoved returns the indices of the headings in their new order, before it is known whether their levels are an outline.
func wantMoved(levels []int, i, k int) ([]int, bool) {
	end := ownedUpTo(levels, i)
	if i <= k && k < end {
		return nil, false
	}
	var order []int
	for at := range levels {
		if at < i || at >= end {
			order = append(order, at)
		}
		if at == ownedUpTo(levels, k)-1 {
			for from := i; from < end; from++ {
				order = append(order, from)
			}
		}
	}
	return order, true
}

// levelCounts returns how many headings each level has.
func levelCounts(levels []int) map[int]int {
	counts := map[int]int{}
	for _, level := range levels {
		counts[level]++
	}
	return counts
}

func TestP100OutlinesAreValid(t *testing.T) {
	allLevels(5, 0, 5, func(levels []int) {
		if is := impl.ValidOutline(levels); is != isOutline(levels) {
			t.Errorf("ValidOutline(%v) = %v", levels, is)
		}
	})
	someOutlines(1000, func(levels []int) {
		if !impl.ValidOutline(levels) {
			t.Errorf("ValidOutline(%v) is false", levels)
		}
	})
	if !impl.ValidOutline(nil) || !impl.ValidOutline([]int{}) {
		t.Error("an outline without headings is not valid")
	}
	for _, levels := range invalidOutlines() {
		if impl.ValidOutline(levels) {
			t.Errorf("ValidOutline of %d levels %.80v is true", len(levels), fmt.Sprint(levels))
		}
	}
}

func TestP98NumbersFailForInvalidOutlines(t *testing.T) {
	for _, levels := range invalidOutlines() {
		if numbers := impl.NumberHeadings(levels); numbers != nil {
			t.Errorf("NumberHeadings of %d levels %.80v = %v", len(levels), fmt.Sprint(levels), numbers)
		}
	}
	if numbers := impl.NumberHeadings(nil); len(numbers) != 0 {
		t.Errorf("NumberHeadings of no headings = %v", numbers)
	}
}

// Promise 98.
func TestP98NumbersHaveAsManyPartsAsLevels(t *testing.T) {
	someOutlines(3000, func(levels []int) {
		numbers := impl.NumberHeadings(levels)
		if want := wantNumbers(levels); !slices.Equal(numbers, want) {
			t.Fatalf("NumberHeadings(%v) = %v, want %v", levels, numbers, want)
		}
		seen := map[string]bool{}
		for i, number := range numbers {
			if seen[number] || strings.Count(number, ".") != levels[i]-1 {
				t.Errorf("NumberHeadings(%v) = %v, which is wrong for %d", levels, numbers, i)
			}
			seen[number] = true
		}
	})
	want := []string{"1", "1.1", "1.1.1", "1.1.1.1", "1.1.1.2", "1.1.2", "1.1.2.1", "1.2", "1.2.1", "2", "2.1"}
	if numbers := impl.NumberHeadings([]int{1, 2, 3, 4, 4, 3, 4, 2, 3, 1, 2}); !slices.Equal(numbers, want) {
		t.Errorf("NumberHeadings = %v, want %v", numbers, want)
	}
}

// Promise 99.
func TestP99NumbersBeginWithThoseOfParents(t *testing.T) {
	someOutlines(3000, func(levels []int) {
		numbers := impl.NumberHeadings(levels)
		kids := map[int]int{}
		for i := range levels {
			parent := impl.ParentOf(levels, i)
			if want := wantParent(levels, i); parent != want {
				t.Fatalf("ParentOf(%v, %d) = %d, want %d", levels, i, parent, want)
			}
			kids[parent]++
			want := strconv.Itoa(kids[parent])
			if parent >= 0 {
				want = numbers[parent] + "." + want
			}
			if numbers[i] != want || (parent < 0) != (levels[i] == 1) {
				t.Errorf("NumberHeadings(%v) = %v, want %s for %d", levels, numbers, want, i)
			}
		}
	})
}

func TestP99ParentOfFailsForInvalidArguments(t *testing.T) {
	for _, levels := range invalidOutlines() {
		for _, i := range []int{-1, 0, 1, 2, 3, 4, 19, 20, 21} {
			if parent := impl.ParentOf(levels, i); parent != -1 {
				t.Errorf("ParentOf(%.80v, %d) = %d", fmt.Sprint(levels), i, parent)
			}
		}
	}
	allOutlines(4, func(levels []int) {
		for _, i := range append([]int{-2, len(levels), len(levels) + 1}, extremes...) {
			if i >= 0 && i < len(levels) {
				continue
			}
			if parent := impl.ParentOf(levels, i); parent != -1 {
				t.Errorf("ParentOf(%v, %d) = %d", levels, i, parent)
			}
		}
	})
}

// Promise 100.
func TestP100BeginningsOfOutlinesAreValid(t *testing.T) {
	someOutlines(1000, func(levels []int) {
		numbers := impl.NumberHeadings(levels)
		for n := range len(levels) + 1 {
			if !impl.ValidOutline(levels[:n]) {
				t.Errorf("ValidOutline(%v) is false", levels[:n])
			}
			if first := impl.NumberHeadings(levels[:n]); !slices.Equal(first, numbers[:n]) {
				t.Errorf("NumberHeadings(%v) = %v, but those of %v are %v", levels[:n], first, levels, numbers)
			}
		}
	})
}

// checkMove checks what becomes of an outline, and returns whether the heading was moved.
func checkMove(t *testing.T, levels []int, i, k int) bool {
	t.Helper()
	order, possible := wantMoved(levels, i, k)
	want := make([]int, len(order))
	for at, from := range order {
		want[at] = levels[from]
	}
	if !possible || !isOutline(want) {
		want, possible = nil, false
	}
	moved, ok := impl.MoveHeading(levels, i, k)
	if ok != possible || !slices.Equal(moved, want) || !ok && moved != nil {
		t.Fatalf("MoveHeading(%v, %d, %d) = %v, %v, want %v, %v", levels, i, k, moved, ok, want, possible)
	}
	return ok
}

// Promise 101.
func TestP101MovingKeepsAllHeadings(t *testing.T) {
	moves, fails := 0, 0
	someOutlines(500, func(levels []int) {
		for i := range levels {
			for k := range levels {
				if !checkMove(t, levels, i, k) {
					fails++
					continue
				}
				moves++
				moved, _ := impl.MoveHeading(levels, i, k)
				if !impl.ValidOutline(moved) || fmt.Sprint(levelCounts(moved)) != fmt.Sprint(levelCounts(levels)) {
					t.Errorf("MoveHeading(%v, %d, %d) = %v", levels, i, k, moved)
				}
			}
		}
	})
	if moves < 10000 || fails < 10000 {
		t.Errorf("%d headings were moved, and %d were not", moves, fails)
	}
}

func TestP101HeadingsTakeWhatTheyOwnWithThem(t *testing.T) {
	for _, c := range []struct {
		levels []int
		i, k   int
		want   []int
	}{
		{[]int{1, 2, 3, 2, 1, 2}, 1, 5, []int{1, 2, 1, 2, 2, 3}},
		{[]int{1, 2, 3, 2, 1, 2}, 1, 4, []int{1, 2, 1, 2, 2, 3}},
		{[]int{1, 2, 3, 2, 1, 2}, 1, 3, []int{1, 2, 2, 3, 1, 2}},
		{[]int{1, 2, 3, 2, 1, 2}, 1, 0, []int{1, 2, 2, 3, 1, 2}}, // behind its own parent, which owns more
		{[]int{1, 2, 3, 2, 1, 2}, 3, 0, []int{1, 2, 3, 2, 1, 2}}, // it was there
		{[]int{1, 2, 3, 2, 1, 2}, 0, 4, []int{1, 2, 1, 2, 3, 2}},
		{[]int{1, 2, 3, 2, 1, 2}, 4, 0, []int{1, 2, 3, 2, 1, 2}},
		{[]int{1, 2, 3, 2, 1, 2}, 4, 1, []int{1, 2, 3, 1, 2, 2}}, // others get a new parent
		{[]int{1, 2, 3, 2, 1, 2}, 2, 3, []int{1, 2, 2, 3, 1, 2}},
		{[]int{1, 2, 3, 2, 1, 2}, 2, 5, []int{1, 2, 2, 1, 2, 3}},
		{[]int{1, 2, 3, 4, 1}, 4, 3, []int{1, 2, 3, 4, 1}},
		{[]int{1, 1}, 0, 1, []int{1, 1}},
		{[]int{1, 2}, 1, 0, []int{1, 2}},
		// A heading would be two levels below the one before it.
		{[]int{1, 2, 3, 1}, 2, 3, nil},
		{[]int{1, 2, 3, 3, 1}, 4, 2, nil},
		{[]int{1, 2, 3, 4, 1, 2}, 3, 5, nil},
		// It would be moved into itself.
		{[]int{1, 2, 3, 2, 1, 2}, 1, 1, nil},
		{[]int{1, 2, 3, 2, 1, 2}, 1, 2, nil},
		{[]int{1, 2, 3, 2, 1, 2}, 0, 2, nil},
		{[]int{1, 2, 3, 2, 1, 2}, 0, 3, nil},
		{[]int{1}, 0, 0, nil},
	} {
		if got, ok := impl.MoveHeading(c.levels, c.i, c.k); ok != (c.want != nil) || !slices.Equal(got, c.want) {
			t.Errorf("MoveHeading(%v, %d, %d) = %v, %v, want %v", c.levels, c.i, c.k, got, ok, c.want)
		}
		checkMove(t, c.levels, c.i, c.k)
	}
}

func TestP101MoveHeadingFailsForInvalidArguments(t *testing.T) {
	check := func(levels []int, i, k int) {
		if moved, ok := impl.MoveHeading(levels, i, k); ok || moved != nil {
			t.Errorf("MoveHeading(%.80v, %d, %d) = %v, %v", fmt.Sprint(levels), i, k, moved, ok)
		}
	}
	places := []int{-1, 0, 1, 2, 3, 19, 20, 21}
	for _, levels := range invalidOutlines() {
		for _, i := range places {
			for _, k := range places {
				check(levels, i, k)
			}
		}
	}
	allOutlines(4, func(levels []int) {
		for _, i := range append([]int{len(levels)}, extremes...) {
			for k := range levels {
				if i < 0 || i >= len(levels) {
					check(levels, i, k)
					check(levels, k, i)
					check(levels, i, i)
				}
			}
		}
	})
	// What is moved could make an invalid outline valid, which does not count.
	check([]int{2, 1}, 0, 1)
	check([]int{1, 3, 2}, 1, 2)
	check(nil, 0, 0)
}

// Promise 102.
func TestP102AHeadingCannotBeMovedIntoItself(t *testing.T) {
	someOutlines(1000, func(levels []int) {
		for k := range levels {
			fails := []int{impl.ParentOf(levels, k)}
			for i := k; i >= 0; i = wantParent(levels, i) {
				fails = append(fails, i)
			}
			for _, i := range fails {
				if moved, ok := impl.MoveHeading(levels, i, k); ok || moved != nil {
					t.Errorf("MoveHeading(%v, %d, %d) = %v, %v", levels, i, k, moved, ok)
				}
			}
		}
	})
}

// Promise 146.
func TestP146HeadingsOfOneLevelAreCounted(t *testing.T) {
	for n := range 22 {
		numbers := impl.NumberHeadings(slices.Repeat([]int{1}, n))
		if n > 20 {
			if numbers != nil {
				t.Errorf("NumberHeadings of %d headings = %v", n, numbers)
			}
			continue
		}
		var want []string
		for _, i := range countTo(n) {
			want = append(want, strconv.Itoa(i))
		}
		if !slices.Equal(numbers, want) {
			t.Errorf("NumberHeadings of %d headings = %v, want %v", n, numbers, want)
		}
	}
}

func TestOutlinesAreNotChangedOrShared(t *testing.T) {
	levels := []int{1, 2, 3, 2, 1, 2, 9}[:6]
	for range 2 {
		moved, ok := impl.MoveHeading(levels, 1, 5)
		if !ok {
			t.Error("MoveHeading fails")
		}
		equalInts(t, "MoveHeading", moved, 1, 2, 1, 2, 2, 3)
		clear(moved[:cap(moved)])
		numbers := impl.NumberHeadings(levels)
		if !slices.Equal(numbers, []string{"1", "1.1", "1.1.1", "1.2", "2", "2.1"}) {
			t.Errorf("NumberHeadings = %v", numbers)
		}
		clear(numbers[:cap(numbers)])
		impl.ParentOf(levels, 5)
	}
	equalInts(t, "the levels", levels[:7], 1, 2, 3, 2, 1, 2, 9)
}
