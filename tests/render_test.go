package tests

import (
	"fmt"
	"math"
	"runtime"
	"slices"
	"strings"
	"sync"
	"testing"
	"time"

	"loop.example/typesetting/impl"
)

// put returns a text at a place.
func put(x, y int, text string) impl.Placed {
	return impl.Placed{X: x, Y: y, Text: text}
}

// randomPlaced returns up to n texts inside of w columns and h rows, of at most some characters, spaces among them.
func randomPlaced(r randomSource, n, most, w, h int) []impl.Placed {
	var list []impl.Placed
	for range r.Intn(n + 1) {
		var text []byte
		for range 1 + r.Intn(min(most, w)) {
			text = append(text, "abcXYZ019 .~"[r.Intn(12)])
		}
		list = append(list, put(r.Intn(w-len(text)+1), r.Intn(h), string(text)))
	}
	return list
}

// somePlaced goes over valid texts and pictures, in which there is much or little room.
func somePlaced(n int, visit func(list []impl.Placed, w, h int)) {
	visit(nil, 1, 1)
	visit(nil, 60, 60)
	visit([]impl.Placed{put(0, 0, "a")}, 1, 1)
	visit([]impl.Placed{put(0, 0, " ")}, 1, 1)
	visit([]impl.Placed{put(59, 59, "~")}, 60, 60)
	visit([]impl.Placed{put(0, 59, strings.Repeat("a", 60)), put(0, 0, strings.Repeat(" ", 60))}, 60, 60)
	visit(slices.Repeat([]impl.Placed{put(1, 1, "ab")}, 60), 3, 2)
	// All places of two texts in a row, from those that touch at the left to those that touch at the right.
	for x := range 11 {
		for length := 1; x+length <= 11; length++ {
			visit([]impl.Placed{put(4, 0, "abc"), put(x, 0, strings.Repeat("x", length))}, 11, 2)
			visit([]impl.Placed{put(x, 1, strings.Repeat("x", length)), put(4, 1, "abc")}, 11, 2)
			visit([]impl.Placed{put(x, 0, strings.Repeat("x", length)), put(4, 1, "abc")}, 11, 2)
		}
	}
	r := fixed()
	for range n {
		w, h := 1+r.Intn(8), 1+r.Intn(4)
		visit(randomPlaced(r, 5, 4, w, h), w, h)
		w, h = 1+r.Intn(60), 1+r.Intn(60)
		visit(randomPlaced(r, 60, 60, w, h), w, h)
		visit(randomPlaced(r, 30, 3, 60, h), 60, h)
	}
}

// invalidPlaced goes over texts and pictures that are not valid together.
func invalidPlaced(visit func(what string, list []impl.Placed, w, h int)) {
	around := func(what string, p impl.Placed, w, h int) {
		visit(what, []impl.Placed{p}, w, h)
		visit("first, "+what, []impl.Placed{p, put(0, 0, "a"), put(0, 0, "b")}, w, h)
		visit("last, "+what, []impl.Placed{put(0, 0, "a"), put(0, 0, "b"), p}, w, h)
	}
	for _, n := range append([]int{59, 60, 61}, extremes...) {
		if n < 1 || n > 60 {
			for _, list := range [][]impl.Placed{nil, {put(0, 0, "a")}} {
				visit(fmt.Sprint("width ", n), list, n, 5)
				visit(fmt.Sprint("height ", n), list, 5, n)
				visit(fmt.Sprint("both ", n), list, n, n)
			}
		}
		if n < 0 || n > 8 {
			around(fmt.Sprint("column ", n), put(n, 0, "ab"), 10, 10)
		}
		if n < 0 || n > 9 {
			around(fmt.Sprint("column of one character ", n), put(n, 0, "a"), 10, 10)
			around(fmt.Sprint("row ", n), put(0, n, "ab"), 10, 10)
			around(fmt.Sprint("column and row ", n), put(n, n, "a"), 10, 10)
		}
	}
	// The sum of the column and the length is too large for an int.
	for n := range 5 {
		around("the greatest column", put(math.MaxInt-n, 0, "abc"), 60, 60)
	}
	around("a column too far", put(9, 0, "ab"), 10, 10)
	around("a column too far to the left", put(-1, 0, "ab"), 10, 10)
	around("a row too far", put(0, 10, "ab"), 10, 10)
	around("a text too wide", put(0, 0, "abcdefghijk"), 10, 10)
	around("no text", put(0, 0, ""), 10, 10)
	around("no text at the border", put(10, 0, ""), 10, 10)
	around("a zero text", impl.Placed{}, 60, 60)
	for _, text := range invalidTexts() {
		around(fmt.Sprintf("%.20q", text), put(0, 0, text), 60, 60)
	}
	for _, n := range []int{61, 10000} {
		visit(fmt.Sprint(n, " texts"), slices.Repeat([]impl.Placed{put(0, 0, "a")}, n), 60, 60)
	}
}

// wantDrawn looks for each character at the last text that covers it.
func wantDrawn(list []impl.Placed, w, h int) []string {
	var rows []string
	for y := range h {
		var row strings.Builder
		for x := range w {
			c := byte(' ')
			for _, p := range list {
				if p.Y == y && x >= p.X && x < p.X+len(p.Text) {
					c = p.Text[x-p.X]
				}
			}
			row.WriteByte(c)
		}
		rows = append(rows, row.String())
	}
	return rows
}

// haveCommonPlace compares all places of two texts.
func haveCommonPlace(a, b impl.Placed) bool {
	for i := range a.Text {
		for k := range b.Text {
			if a.Y == b.Y && a.X+i == b.X+k {
				return true
			}
		}
	}
	return false
}

// wantOverlap returns the first pair of texts that have a place in common.
func wantOverlap(list []impl.Placed) (int, int, bool) {
	for i := range list {
		for k := range list {
			if i < k && haveCommonPlace(list[i], list[k]) {
				return i, k, true
			}
		}
	}
	return -1, -1, false
}

// equalRows reports an error if rows are not as expected.
func equalRows(t *testing.T, what string, got, want []string) {
	t.Helper()
	if !slices.Equal(got, want) {
		t.Errorf("%s = %q, want %q", what, got, want)
	}
}

// Promise 118.
func TestP118DrawingsHaveAllRows(t *testing.T) {
	somePlaced(1000, func(list []impl.Placed, w, h int) {
		rows := impl.Draw(list, w, h)
		if len(rows) != h {
			t.Fatalf("Draw of %v has %d rows, want %d", list, len(rows), h)
		}
		for _, row := range rows {
			if len(row) != w {
				t.Fatalf("Draw of %v has a row %q, whose width is not %d", list, row, w)
			}
		}
		equalRows(t, fmt.Sprintf("Draw of %v for %d, %d", list, w, h), rows, wantDrawn(list, w, h))
	})
	for w := 1; w <= 60; w++ {
		for h := 1; h <= 60; h++ {
			rows := impl.Draw(nil, w, h)
			equalRows(t, "Draw without texts", rows, slices.Repeat([]string{strings.Repeat(" ", w)}, h))
		}
	}
}

func TestP118DrawFailsForInvalidArguments(t *testing.T) {
	invalidPlaced(func(what string, list []impl.Placed, w, h int) {
		if rows := impl.Draw(list, w, h); rows != nil {
			t.Errorf("%s: Draw = %q", what, rows)
		}
	})
}

func TestP118RowsDoNotDependOnTheirGoroutines(t *testing.T) {
	before := runtime.NumGoroutine()
	r := fixed()
	list := randomPlaced(r, 60, 20, 60, 60)
	for len(list) < 60 {
		list = append(list, put(r.Intn(50), r.Intn(60), "abcdefghij"))
	}
	want := wantDrawn(list, 60, 60)
	var callers sync.WaitGroup
	for range 8 {
		callers.Go(func() {
			for range 50 {
				equalRows(t, "Draw", impl.Draw(list, 60, 60), want)
			}
		})
	}
	callers.Wait()
	// A goroutine may need a moment to end after its last step.
	for range 1000 {
		if runtime.NumGoroutine() <= before {
			return
		}
		time.Sleep(5 * time.Millisecond)
	}
	t.Errorf("there were %d goroutines, and now there are %d", before, runtime.NumGoroutine())
}

// Promise 119.
func TestP119TheLastTextIsSeen(t *testing.T) {
	somePlaced(1000, func(list []impl.Placed, w, h int) {
		if len(list) == 0 {
			return
		}
		last := list[len(list)-1]
		rows := impl.Draw(list, w, h)
		if at := rows[last.Y][last.X:]; !strings.HasPrefix(at, last.Text) {
			t.Errorf("Draw of %v for %d, %d = %q", list, w, h, rows)
		}
	})
	for _, c := range []struct {
		list []impl.Placed
		want []string
	}{
		{[]impl.Placed{put(0, 0, "abc"), put(2, 0, "de"), put(1, 1, "f")}, []string{"abde ", " f   "}},
		{[]impl.Placed{put(2, 0, "de"), put(0, 0, "abc"), put(1, 1, "f")}, []string{"abce ", " f   "}},
		{[]impl.Placed{put(0, 0, "abcde"), put(1, 0, "   ")}, []string{"a   e", "     "}}, // a space covers, too
		{[]impl.Placed{put(1, 0, "   "), put(0, 0, "abcde")}, []string{"abcde", "     "}},
		{[]impl.Placed{put(0, 0, "ab"), put(2, 0, "cd"), put(4, 1, "e"), put(0, 1, "f")}, []string{"abcd ", "f   e"}},
		{[]impl.Placed{put(0, 1, "aaaaa"), put(0, 1, "bbb"), put(0, 1, "c")}, []string{"     ", "cbbaa"}},
		{[]impl.Placed{put(0, 0, "a b"), put(2, 0, " ~!")}, []string{"a  ~!", "     "}},
	} {
		equalRows(t, fmt.Sprintf("Draw of %v", c.list), impl.Draw(c.list, 5, 2), c.want)
	}
}

// Promise 120.
func TestP120TextsThatDoNotOverlapMayBeDrawnInAnyOrder(t *testing.T) {
	apart := 0
	r := fixed()
	somePlaced(3000, func(list []impl.Placed, w, h int) {
		if _, _, ok := impl.Overlaps(list, w, h); ok {
			return
		}
		rows := impl.Draw(list, w, h)
		opposite, mixed := slices.Clone(list), slices.Clone(list)
		slices.Reverse(opposite)
		for i := range mixed {
			k := r.Intn(i + 1)
			mixed[i], mixed[k] = mixed[k], mixed[i]
		}
		equalRows(t, fmt.Sprintf("Draw of %v", opposite), impl.Draw(opposite, w, h), rows)
		equalRows(t, fmt.Sprintf("Draw of %v", mixed), impl.Draw(mixed, w, h), rows)
		if len(list) > 1 {
			apart++
		}
	})
	if apart < 1000 {
		t.Errorf("only %d times several texts do not overlap", apart)
	}
}

// Promise 121.
func TestP121OverlappingTextsAreInTheSameRow(t *testing.T) {
	overlapping := 0
	somePlaced(1500, func(list []impl.Placed, w, h int) {
		i, k, ok := impl.Overlaps(list, w, h)
		if wantI, wantK, is := wantOverlap(list); i != wantI || k != wantK || ok != is {
			t.Fatalf("Overlaps of %v = %d, %d, %v, want %d, %d, %v", list, i, k, ok, wantI, wantK, is)
		}
		if ok {
			overlapping++
			if i >= k || list[i].Y != list[k].Y {
				t.Errorf("Overlaps of %v = %d, %d", list, i, k)
			}
		}
		for _, n := range ascending(min(len(list), 6)) {
			a, b := list[n], list[len(list)-1-n]
			if _, _, two := impl.Overlaps([]impl.Placed{a, b}, w, h); two != haveCommonPlace(a, b) {
				t.Errorf("Overlaps of %v and %v alone is %v", a, b, two)
			}
		}
	})
	if overlapping < 1000 {
		t.Errorf("only %d times texts overlap", overlapping)
	}
}

func TestP121TextsThatTouchDoNotOverlap(t *testing.T) {
	for _, c := range []struct {
		list []impl.Placed
		i, k int
	}{
		{nil, -1, -1}, {[]impl.Placed{put(0, 0, "abcdefghij")}, -1, -1},
		{[]impl.Placed{put(0, 0, "abc"), put(3, 0, "de")}, -1, -1},
		{[]impl.Placed{put(3, 0, "de"), put(0, 0, "abc")}, -1, -1},
		{[]impl.Placed{put(0, 0, "abc"), put(2, 0, "de")}, 0, 1},
		{[]impl.Placed{put(2, 0, "de"), put(0, 0, "abc")}, 0, 1},
		{[]impl.Placed{put(0, 0, "abc"), put(0, 1, "abc"), put(0, 2, "abc")}, -1, -1},
		{[]impl.Placed{put(0, 0, "a"), put(1, 0, "b"), put(2, 0, "c"), put(1, 1, "d")}, -1, -1},
		{[]impl.Placed{put(0, 0, "a"), put(0, 0, "b")}, 0, 1},
		{[]impl.Placed{put(0, 0, "abcde"), put(2, 0, "x")}, 0, 1},
		{[]impl.Placed{put(2, 0, "x"), put(0, 0, "abcde")}, 0, 1},
		{[]impl.Placed{put(0, 0, "ab"), put(1, 0, " ")}, 0, 1}, // a space has a place as well
		{[]impl.Placed{put(0, 0, "a b"), put(1, 0, "c")}, 0, 1},
		// The first text of a pair decides before the second one.
		{[]impl.Placed{put(0, 0, "a"), put(5, 0, "bb"), put(6, 0, "cc"), put(0, 0, "d")}, 0, 3},
		{[]impl.Placed{put(9, 9, "a"), put(5, 0, "bb"), put(0, 0, "c"), put(0, 0, "d"), put(6, 0, "e")}, 1, 4},
		{[]impl.Placed{put(0, 0, "abc"), put(4, 0, "d"), put(2, 0, "e"), put(2, 0, "f")}, 0, 2},
	} {
		i, k, ok := impl.Overlaps(c.list, 10, 10)
		if i != c.i || k != c.k || ok != (c.i >= 0) {
			t.Errorf("Overlaps of %v = %d, %d, %v, want %d, %d", c.list, i, k, ok, c.i, c.k)
		}
	}
}

func TestP121OverlapsFailsForInvalidArguments(t *testing.T) {
	invalidPlaced(func(what string, list []impl.Placed, w, h int) {
		if i, k, ok := impl.Overlaps(list, w, h); i != -1 || k != -1 || ok {
			t.Errorf("%s: Overlaps = %d, %d, %v", what, i, k, ok)
		}
	})
}

// Promise 122.
func TestP122PartsOfValidTextsAreValid(t *testing.T) {
	r := fixed()
	somePlaced(1000, func(list []impl.Placed, w, h int) {
		if !impl.ValidPlaced(list, w, h) {
			t.Fatalf("ValidPlaced(%v, %d, %d) is false", list, w, h)
		}
		var part []impl.Placed
		for _, p := range list {
			if r.Intn(2) == 0 {
				part = append(part, p)
			}
		}
		for _, some := range [][]impl.Placed{nil, list, part, list[len(list)/2:], list[:len(list)/2]} {
			for _, size := range [][2]int{{w, h}, {w, 60}, {60, h}, {60, 60}, {w + r.Intn(61-w), h + r.Intn(61-h)}} {
				if !impl.ValidPlaced(some, size[0], size[1]) {
					t.Errorf("ValidPlaced(%v, %d, %d) is false", some, size[0], size[1])
				}
			}
		}
		// What needs all of the picture is not valid in a smaller one.
		for _, p := range list {
			if impl.ValidPlaced(list, p.X+len(p.Text)-1, h) || impl.ValidPlaced(list, w, p.Y) {
				t.Errorf("ValidPlaced(%v) holds in a picture without a place of %v", list, p)
			}
		}
	})
}

func TestP122OtherTextsAreNotValid(t *testing.T) {
	invalidPlaced(func(what string, list []impl.Placed, w, h int) {
		if impl.ValidPlaced(list, w, h) {
			t.Errorf("%s: ValidPlaced is true", what)
		}
	})
	full := slices.Repeat([]impl.Placed{put(0, 59, allCharacters()[:60])}, 60)
	if !impl.ValidPlaced(full, 60, 60) || !impl.ValidPlaced([]impl.Placed{put(8, 9, "ab"), put(9, 0, "a"), put(0, 9, "abcdefghij")}, 10, 10) {
		t.Error("ValidPlaced is false for texts at the border")
	}
	for i, c := range allCharacters() {
		if !impl.ValidPlaced([]impl.Placed{put(i%60, 0, string(c))}, 60, 1) {
			t.Errorf("ValidPlaced is false for %q", c)
		}
	}
	for length := 1; length <= 62; length++ {
		for x := range 61 {
			p := put(x, 0, strings.Repeat("a", length))
			if is := impl.ValidPlaced([]impl.Placed{p}, 60, 1); is != (x+length <= 60) {
				t.Errorf("ValidPlaced of %d characters in column %d is %v", length, x, is)
			}
		}
	}
}

// wantTrimmed takes spaces and empty rows away, one by one.
func wantTrimmed(rows []string) []string {
	var trimmed []string
	for _, row := range rows {
		for len(row) > 0 && row[len(row)-1] == ' ' {
			row = row[:len(row)-1]
		}
		trimmed = append(trimmed, row)
	}
	for len(trimmed) > 0 && trimmed[len(trimmed)-1] == "" {
		trimmed = trimmed[:len(trimmed)-1]
	}
	return trimmed
}

// someRows goes over rows that can be trimmed.
func someRows(visit func(rows []string)) {
	var texts []string
	allTexts(" a", 3, func(s string) { texts = append(texts, s) })
	allLevels(3, 0, len(texts)-1, func(list []int) {
		var rows []string
		for _, i := range list {
			rows = append(rows, texts[i])
		}
		visit(rows)
	})
	for _, row := range []string{"", " ", "a", " a ", "~", strings.Repeat(" ", 60), strings.Repeat("a", 60), strings.Repeat(" a", 30), strings.Repeat("a ", 30)} {
		visit(slices.Repeat([]string{row}, 60))
		visit(append(slices.Repeat([]string{row}, 59), "x  "))
		visit(append([]string{"x  "}, slices.Repeat([]string{row}, 59)...))
	}
	r := fixed()
	for range 2000 {
		var rows []string
		for range r.Intn(61) {
			row := randomText(r, []string{" ", " a", allCharacters()}[r.Intn(3)], r.Intn(30))
			rows = append(rows, row+strings.Repeat(" ", r.Intn(31)))
		}
		visit(rows)
	}
}

// Promise 123.
func TestP123TrimmingIsIdempotent(t *testing.T) {
	someRows(func(rows []string) {
		trimmed := impl.TrimRows(rows)
		if want := wantTrimmed(rows); !slices.Equal(trimmed, want) {
			t.Fatalf("TrimRows(%q) = %q, want %q", rows, trimmed, want)
		}
		equalRows(t, fmt.Sprintf("TrimRows of TrimRows of %q", rows), impl.TrimRows(trimmed), trimmed)
		for i, row := range trimmed {
			if strings.HasSuffix(row, " ") || !strings.HasPrefix(rows[i], row) {
				t.Errorf("TrimRows(%q) = %q", rows, trimmed)
			}
		}
		if n := len(trimmed); n > 0 && trimmed[n-1] == "" {
			t.Errorf("TrimRows(%q) = %q", rows, trimmed)
		}
	})
	for _, c := range []struct{ rows, want []string }{
		{nil, nil}, {[]string{""}, nil}, {[]string{"  ", "", " "}, nil}, {[]string{"a"}, []string{"a"}}, {[]string{" a b  ", ""}, []string{" a b"}},
		{[]string{"", "a ", "  ", "", "b", " "}, []string{"", "a", "", "", "b"}},
		{[]string{"abde ", " f   ", "     "}, []string{"abde", " f"}},
	} {
		equalRows(t, fmt.Sprintf("TrimRows(%q)", c.rows), impl.TrimRows(c.rows), c.want)
	}
}

func TestP123TrimRowsFailsForInvalidArguments(t *testing.T) {
	for _, text := range invalidTexts() {
		for _, rows := range [][]string{{text}, {text, "a"}, {"a", text}, {"a", text, "a"}, {"a ", " ", text}, append(slices.Repeat([]string{"a"}, 59), text)} {
			if trimmed := impl.TrimRows(rows); trimmed != nil {
				t.Errorf("TrimRows of %d rows with %.20q = %.80q", len(rows), text, trimmed)
			}
		}
	}
	for _, n := range []int{61, 62, 10000} {
		for _, row := range []string{"", " ", "a"} {
			if trimmed := impl.TrimRows(slices.Repeat([]string{row}, n)); trimmed != nil {
				t.Errorf("TrimRows of %d rows %q = %.80q", n, row, trimmed)
			}
		}
	}
	// Spaces that would be taken away make a row too long as well.
	if trimmed := impl.TrimRows([]string{"a" + strings.Repeat(" ", 60)}); trimmed != nil {
		t.Errorf("TrimRows of a row of 61 characters = %q", trimmed)
	}
}

// Promise 124.
func TestP124TrimmedDrawingsKeepTheirTexts(t *testing.T) {
	empty := 0
	check := func(list []impl.Placed, w, h int) {
		rows := impl.Draw(list, w, h)
		trimmed := impl.TrimRows(rows)
		only := strings.Trim(strings.Join(rows, ""), " ") == ""
		if only != (len(trimmed) == 0) {
			t.Errorf("TrimRows of Draw of %v for %d, %d = %q", list, w, h, trimmed)
		}
		if only {
			empty++
		}
		// The spaces that were taken away can be added again.
		again := slices.Concat(trimmed, make([]string, h-len(trimmed)))
		for i, row := range again {
			again[i] = row + strings.Repeat(" ", w-len(row))
		}
		equalRows(t, "TrimRows of Draw with spaces again", again, rows)
	}
	somePlaced(1000, func(list []impl.Placed, w, h int) {
		check(list, w, h)
		spaces := slices.Clone(list)
		for i := range spaces {
			spaces[i].Text = strings.Repeat(" ", len(spaces[i].Text))
		}
		check(spaces, w, h)
		if len(list) <= 30 {
			check(slices.Concat(list, spaces), w, h)
		}
	})
	if empty < 1000 {
		t.Errorf("only %d drawings are empty", empty)
	}
}

func TestDrawingsAreNotChangedOrShared(t *testing.T) {
	texts := []impl.Placed{put(0, 0, "abc"), put(2, 0, "de"), put(1, 1, "f"), put(4, 2, "g")}
	list, kept := texts[:3], slices.Clone(texts)
	lines := []string{"a ", "", "b  ", " ", "c"}
	rows, keptRows := lines[:4], slices.Clone(lines)
	for range 2 {
		drawn := impl.Draw(list, 5, 3)
		equalRows(t, "Draw", drawn, []string{"abde ", " f   ", "     "})
		clear(drawn[:cap(drawn)])
		trimmed := impl.TrimRows(rows)
		equalRows(t, "TrimRows", trimmed, []string{"a", "", "b"})
		clear(trimmed[:cap(trimmed)])
		impl.Overlaps(list, 5, 3)
		impl.ValidPlaced(list, 5, 3)
	}
	if !slices.Equal(texts, kept) {
		t.Errorf("the texts became %v", texts)
	}
	equalRows(t, "the rows", lines, keptRows)
}
