package tests

import (
	"slices"
	"testing"

	"loop.example/typesetting/impl"
)

// rect returns a box with the three lengths.
func rect(width, height, depth int) impl.Box {
	return impl.Box{Width: width, Height: height, Depth: depth}
}

// randomRects returns up to n boxes, whose lengths are small or at their limits.
func randomRects(r randomSource, n int) []impl.Box {
	var list []impl.Box
	for range r.Intn(n + 1) {
		list = append(list, rect(r.Intn(20), r.Intn(20), r.Intn(20)))
	}
	if len(list) > 0 && r.Intn(4) == 0 {
		list[r.Intn(len(list))] = rect(positive[r.Intn(len(positive))], positive[r.Intn(len(positive))], positive[r.Intn(len(positive))])
	}
	return list
}

// someRects returns lists of boxes.
func someRects() [][]impl.Box {
	r := fixed()
	list := [][]impl.Box{
		nil, {rect(0, 0, 0)}, {rect(10000, 10000, 10000)}, {rect(10000, 0, 0), rect(0, 10000, 10000)}, {rect(10000, 5, 5), rect(1, 5, 5)},
		{rect(1, 5000, 4998), rect(1, 1, 7)}, {rect(1, 5000, 4998), rect(1, 2, 7)}, {rect(5000, 1, 1), rect(5000, 1, 1)}, {rect(5000, 1, 1), rect(5001, 1, 1)},
		slices.Repeat([]impl.Box{rect(500, 7, 7)}, 20), slices.Repeat([]impl.Box{rect(501, 7, 7)}, 20),
		slices.Repeat([]impl.Box{rect(7, 250, 250)}, 20), slices.Repeat([]impl.Box{rect(10000, 10000, 10000)}, 20),
	}
	for range 1000 {
		list = append(list, randomRects(r, 20))
	}
	return list
}

// invalidRects returns boxes that are not valid.
func invalidRects() []impl.Box {
	var list []impl.Box
	for _, n := range extremes {
		if n < 0 || n > 10000 {
			list = append(list, rect(n, 1, 1), rect(1, n, 1), rect(1, 1, n), rect(n, -n, n))
		}
	}
	return list
}

// invalidRectLists returns lists of boxes of which one is not valid, or that are too long.
func invalidRectLists() [][]impl.Box {
	list := [][]impl.Box{slices.Repeat([]impl.Box{{}}, 21), slices.Repeat([]impl.Box{{}}, 10000)}
	for _, b := range invalidRects() {
		list = append(list, []impl.Box{b}, []impl.Box{b, rect(1, 1, 1)}, []impl.Box{rect(1, 1, 1), b}, []impl.Box{b, b}, []impl.Box{rect(1, 1, 1), b, rect(1, 1, 1)})
	}
	return list
}

// inLimits returns a box and true if its lengths are in 0..10000.
func inLimits(b impl.Box) (impl.Box, bool) {
	for _, n := range []int{b.Width, b.Height, b.Depth} {
		if n < 0 || n > 10000 {
			return impl.Box{}, false
		}
	}
	return b, true
}

// equalRect reports an error if a box is not as expected.
func equalRect(t *testing.T, what string, of any, got impl.Box, ok bool, want impl.Box, is bool) {
	t.Helper()
	if got != want || ok != is {
		t.Errorf("%s of %v = %v, %v, want %v, %v", what, of, got, ok, want, is)
	}
}

func TestValidBoxHasLengthsInTheirLimits(t *testing.T) {
	for _, n := range extremes {
		want := n >= 0 && n <= 10000
		for _, b := range []impl.Box{rect(n, 0, 10000), rect(10000, n, 0), rect(0, 10000, n), rect(n, n, n)} {
			if impl.ValidBox(b) != want {
				t.Errorf("ValidBox of %v = %v", b, !want)
			}
		}
	}
}

// wantRow returns the box of boxes side by side.
func wantRow(list []impl.Box) (impl.Box, bool) {
	row := impl.Box{}
	for _, b := range list {
		row.Width += b.Width
		row.Height = max(row.Height, b.Height)
		row.Depth = max(row.Depth, b.Depth)
	}
	return inLimits(row)
}

// Promise 46.
func TestP46RowsAreAsHighAsTheirHighestBox(t *testing.T) {
	r := fixed()
	rows := 0
	for _, list := range someRects() {
		row, ok := impl.RowBox(list)
		want, is := wantRow(list)
		equalRect(t, "RowBox", list, row, ok, want, is)
		mixed := slices.Clone(list)
		for i := range mixed {
			k := r.Intn(i + 1)
			mixed[i], mixed[k] = mixed[k], mixed[i]
		}
		other, same := impl.RowBox(mixed)
		equalRect(t, "RowBox in another order", list, other, same, row, ok)
		if !ok {
			continue
		}
		rows++
		for _, b := range list {
			if row.Height < b.Height || row.Depth < b.Depth {
				t.Errorf("RowBox of %v = %v", list, row)
			}
		}
	}
	if rows < 500 {
		t.Errorf("only %d rows are valid", rows)
	}
}

func TestP46RowBoxFailsForInvalidBoxes(t *testing.T) {
	for _, list := range invalidRectLists() {
		row, ok := impl.RowBox(list)
		equalRect(t, "RowBox", list[:min(len(list), 3)], row, ok, impl.Box{}, false)
	}
	row, ok := impl.RowBox([]impl.Box{rect(10000, 1, 1), rect(1, 1, 1)})
	equalRect(t, "RowBox", "a row that is too wide", row, ok, impl.Box{}, false)
	row, ok = impl.RowBox(nil)
	equalRect(t, "RowBox", "no boxes", row, ok, impl.Box{}, true)
}

// Promise 47.
func TestP47RowsCanBeNested(t *testing.T) {
	for _, list := range someRects() {
		row, ok := impl.RowBox(list)
		for i := range len(list) + 1 {
			if i == 0 && len(list) == 20 {
				continue // the box of nothing would be one box too many
			}
			beginning, is := impl.RowBox(list[:i])
			if !is {
				if ok {
					t.Errorf("RowBox of %v = %v, but not that of the first %d", list, row, i)
				}
				continue
			}
			nested, is := impl.RowBox(append([]impl.Box{beginning}, list[i:]...))
			equalRect(t, "nested RowBox", list, nested, is, row, ok)
		}
	}
}

// Promise 48.
func TestP48BaselinesHaveTheSkipBetweenThem(t *testing.T) {
	for _, depth := range positive {
		for _, height := range positive {
			a, b := rect(3, 10000, depth), rect(4, height, 10000)
			for _, skip := range append([]int{depth + height, depth + height + 1, depth + height + 2, depth + height - 1}, positive...) {
				want := max(skip-depth-height, 1)
				if skip < 0 || skip > 10000 {
					want = -1
				}
				if got := impl.Interline(a, b, skip); got != want {
					t.Errorf("Interline of %v and %v for %d = %d, want %d", a, b, skip, got, want)
				}
			}
		}
	}
}

func TestP48InterlineFailsForInvalidArguments(t *testing.T) {
	good := rect(1, 1, 1)
	for _, b := range invalidRects() {
		for _, pair := range [][2]impl.Box{{good, b}, {b, good}, {b, b}} {
			if got := impl.Interline(pair[0], pair[1], 12); got != -1 {
				t.Errorf("Interline of %v = %d", pair, got)
			}
		}
	}
	for _, skip := range extremes {
		want := -1
		if skip >= 0 && skip <= 10000 {
			want = max(skip-2, impl.LineSkip)
		}
		if got := impl.Interline(good, good, skip); got != want {
			t.Errorf("Interline for %d = %d, want %d", skip, got, want)
		}
	}
}

// wantStack returns the box of boxes one below the other.
func wantStack(list []impl.Box, skip int) (impl.Box, bool) {
	if skip < 0 || skip > 10000 {
		return impl.Box{}, false
	}
	stack, total := impl.Box{}, 0
	for i, b := range list {
		if i > 0 {
			total += max(skip-list[i-1].Depth-b.Height, 1)
		}
		total += b.Height + b.Depth
		stack.Width = max(stack.Width, b.Width)
		stack.Depth = b.Depth
	}
	stack.Height = total - stack.Depth
	return inLimits(stack)
}

// Promise 49.
func TestP49StacksAreAsWideAsTheirWidestBox(t *testing.T) {
	r := fixed()
	stacks := 0
	for _, list := range someRects() {
		for _, skip := range []int{0, r.Intn(50), 10000} {
			stack, ok := impl.StackBox(list, skip)
			want, is := wantStack(list, skip)
			equalRect(t, "StackBox", list, stack, ok, want, is)
			if !ok || len(list) == 0 {
				continue
			}
			stacks++
			all, widest := 0, 0
			for _, b := range list {
				all += b.Height + b.Depth
				widest = max(widest, b.Width)
			}
			if stack.Width != widest || stack.Depth != list[len(list)-1].Depth || stack.Height+stack.Depth < all {
				t.Errorf("StackBox of %v for %d = %v", list, skip, stack)
			}
		}
	}
	if stacks < 1000 {
		t.Errorf("only %d stacks are valid", stacks)
	}
}

func TestP49StackBoxFailsForInvalidArguments(t *testing.T) {
	for _, list := range invalidRectLists() {
		stack, ok := impl.StackBox(list, 12)
		equalRect(t, "StackBox", list[:min(len(list), 3)], stack, ok, impl.Box{}, false)
	}
	for _, skip := range extremes {
		for _, list := range [][]impl.Box{nil, {rect(1, 2, 3)}, {rect(1, 2, 3), rect(4, 5, 6)}} {
			stack, ok := impl.StackBox(list, skip)
			want, is := wantStack(list, skip)
			equalRect(t, "StackBox", list, stack, ok, want, is)
		}
	}
	high := []impl.Box{rect(1, 5000, 4000), rect(1, 999, 10000)}
	stack, ok := impl.StackBox(high, 0)
	equalRect(t, "StackBox", high, stack, ok, rect(1, 10000, 10000), true)
	high[0].Width, high[0].Depth = 0, 4001
	stack, ok = impl.StackBox(high, 0)
	equalRect(t, "StackBox", high, stack, ok, impl.Box{}, false)
}

// Promise 50.
func TestP50ASingleBoxIsItsOwnStackAndRow(t *testing.T) {
	for _, width := range positive {
		for _, height := range positive {
			for _, depth := range positive {
				b := rect(width, height, depth)
				row, ok := impl.RowBox([]impl.Box{b})
				equalRect(t, "RowBox", b, row, ok, b, true)
				for _, skip := range positive {
					stack, ok := impl.StackBox([]impl.Box{b}, skip)
					equalRect(t, "StackBox", b, stack, ok, b, true)
				}
			}
		}
	}
}

// Promise 51.
func TestP51RaisingKeepsTheTotalHeight(t *testing.T) {
	raised := 0
	for _, height := range positive {
		for _, depth := range positive {
			b := rect(7, height, depth)
			for _, n := range append([]int{depth, depth + 1, depth - 1, -height, -height - 1, 1 - height}, lengths...) {
				got, ok := impl.RaiseBox(b, n)
				want, is := inLimits(rect(7, max(height+n, 0), max(depth-n, 0)))
				if n < -10000 || n > 10000 {
					want, is = impl.Box{}, false
				}
				equalRect(t, "RaiseBox", []any{b, n}, got, ok, want, is)
				if !ok || got.Height == 0 || got.Depth == 0 {
					continue
				}
				raised++
				if got.Height+got.Depth != height+depth {
					t.Errorf("RaiseBox of %v by %d = %v", b, n, got)
				}
				back, ok := impl.RaiseBox(got, -n)
				equalRect(t, "RaiseBox", []any{got, -n}, back, ok, b, true)
			}
		}
	}
	if raised < 100 {
		t.Errorf("only %d boxes were raised", raised)
	}
}

func TestP51RaiseBoxFailsForInvalidArguments(t *testing.T) {
	for _, b := range invalidRects() {
		for _, n := range []int{-1, 0, 1} {
			got, ok := impl.RaiseBox(b, n)
			equalRect(t, "RaiseBox", []any{b, n}, got, ok, impl.Box{}, false)
		}
	}
	for _, n := range extremes {
		got, ok := impl.RaiseBox(impl.Box{Width: 1}, n)
		want, is := impl.Box{}, false
		if n >= -10000 && n <= 10000 {
			want, is = rect(1, max(n, 0), max(-n, 0)), true
		}
		equalRect(t, "RaiseBox", n, got, ok, want, is)
	}
	for _, c := range []struct {
		b impl.Box
		n int
	}{{rect(1, 10000, 5), 1}, {rect(1, 5, 10000), -1}, {rect(1, 1, 1), 10000}, {rect(1, 1, 1), -10000}} {
		got, ok := impl.RaiseBox(c.b, c.n)
		equalRect(t, "RaiseBox", c, got, ok, impl.Box{}, false)
	}
}

// Promise 140.
func TestP140RaisingByNothingChangesNothing(t *testing.T) {
	for _, width := range positive {
		for _, height := range positive {
			for _, depth := range positive {
				b := rect(width, height, depth)
				got, ok := impl.RaiseBox(b, 0)
				equalRect(t, "RaiseBox by 0", b, got, ok, b, true)
			}
		}
	}
}

func TestBoxesAreNotChanged(t *testing.T) {
	list := []impl.Box{rect(5, 7, 2), rect(8, 4, 3), rect(1, 1, 1)}
	kept := slices.Clone(list)
	impl.RowBox(list)
	impl.StackBox(list, 12)
	impl.RaiseBox(list[0], 3)
	if !slices.Equal(list, kept) {
		t.Errorf("the boxes became %v", list)
	}
}
