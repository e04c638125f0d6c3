package tests

import (
	"testing"

	"loop.example/typesetting/impl"
)

// someWidths are widths for small paragraphs, and some that are not valid.
var someWidths = []int{-1, 0, 1, 2, 3, 5, 8, 10, 12, 15, 21, 10000, 10001}

// Promise 18.
func TestP18LinesFitLikeTheirGlue(t *testing.T) {
	for _, list := range someParagraphs(80) {
		eachPair(list, func(from, to int) {
			for _, width := range someWidths {
				fit, bad := impl.FitLine(list, from, to, width)
				wantedFit, wantedBad := wantFit(list, from, to, width)
				if fit != wantedFit || bad != wantedBad {
					t.Errorf("FitLine of %v from %d to %d for %d = %d, %d, want %d, %d", list, from, to, width, fit, bad, wantedFit, wantedBad)
				}
				g, ok := impl.LineGlue(list, from, to)
				if !ok || width < 1 || width > 10000 {
					continue
				}
				if glueFit, glueBad := impl.FitGlue(g, width); fit != glueFit || bad != glueBad {
					t.Errorf("FitLine of %v from %d to %d for %d = %d, %d, but FitGlue = %d, %d", list, from, to, width, fit, bad, glueFit, glueBad)
				}
			}
		})
	}
}

func TestP18LongLengthsCountAsMaxLength(t *testing.T) {
	repeat := func(n int, x ...impl.Item) []impl.Item {
		var list []impl.Item
		for range n {
			list = append(list, x...)
		}
		return append(list, stop())
	}
	boxes := repeat(11, box(1000))
	wide := repeat(11, box(0), glue(1000, 0, 1000))
	loose := repeat(11, box(1), glue(0, 1000, 0))
	light := append([]impl.Item{box(1)}, repeat(11, box(0), glue(0, 1000, 0))...)
	for i, c := range []struct {
		list            []impl.Item
		width, fit, bad int
	}{
		{boxes, 10000, impl.Exact, 0},
		{boxes, 9999, impl.Overfull, 10000},
		{boxes[1:], 10000, impl.Exact, 0},
		{boxes[2:], 10000, impl.Loose, 10000},
		{wide, 10000, impl.Exact, 0},
		{wide, 1, impl.Tight, 99},
		{wide, 5000, impl.Tight, 12},
		{loose, 10000, impl.Loose, 99},
		{loose, 11, impl.Exact, 0},
		{loose, 5011, impl.Loose, 12},
		{light, 10000, impl.Loose, 99},
		{light[2:], 10000, impl.Loose, 100},
	} {
		if fit, bad := impl.FitLine(c.list, -1, len(c.list)-1, c.width); fit != c.fit || bad != c.bad {
			t.Errorf("line %d fits %d by %d, %d, want %d, %d", i, c.width, fit, bad, c.fit, c.bad)
		}
	}
	r := fixed()
	for range 100 {
		list := wideParagraph(r)
		for _, from := range []int{-1, 1, 7, 13} {
			for _, width := range []int{1, 5000, 9999, 10000} {
				fit, bad := impl.FitLine(list, from, len(list)-1, width)
				wantedFit, wantedBad := wantFit(list, from, len(list)-1, width)
				if fit != wantedFit || bad != wantedBad {
					t.Errorf("FitLine of %v from %d for %d = %d, %d, want %d, %d", list, from, width, fit, bad, wantedFit, wantedBad)
				}
			}
		}
	}
}

func TestP18FitLineFailsForInvalidArguments(t *testing.T) {
	for what, list := range invalidParagraphs() {
		if fit, bad := impl.FitLine(list, -1, len(list)-1, 10); fit != 0 || bad != -1 {
			t.Errorf("%s: FitLine = %d, %d", what, fit, bad)
		}
	}
	list := []impl.Item{box(10), glue(4, 2, 1), box(10), stop()}
	for _, width := range extremes {
		fit, bad := impl.FitLine(list, -1, 1, width)
		if valid := width >= 1 && width <= 10000; valid == (fit == 0) || valid == (bad == -1) {
			t.Errorf("FitLine for the width %d = %d, %d", width, fit, bad)
		}
	}
}

// Promise 19.
func TestP19WorseLinesCostMore(t *testing.T) {
	for _, c := range []struct {
		bad, penalty int
		flags        bool
		want         int
	}{
		{0, 0, false, 1}, {0, 0, true, 3001}, {10, 0, false, 121}, {10, 50, false, 3721}, {10, 50, true, 6721},
		{0, 999, false, 1000000}, {10000, 999, true, 121003000}, {10000, 0, false, 100020001},
		{10, -1, false, 120}, {10, -50, false, -2379}, {10, -50, true, 621}, {0, -999, false, -998000}, {0, -999, true, -995000},
		{10, -1000, false, 121}, {10, -1000, true, 3121}, {10000, -1000, false, 100020001}, {10000, -999, false, 99022000},
	} {
		if got := impl.Demerits(c.bad, c.penalty, c.flags); got != c.want {
			t.Errorf("Demerits(%d, %d, %v) = %d, want %d", c.bad, c.penalty, c.flags, got, c.want)
		}
	}
	for _, bad := range []int{0, 1, 2, 99, 100, 5000, 9998, 9999} {
		for penalty := -1000; penalty < 1000; penalty++ {
			got := impl.Demerits(bad, penalty, false)
			if more := impl.Demerits(bad+1, penalty, false); more < got {
				t.Errorf("Demerits(%d, %d) = %d, but %d for one more", bad, penalty, got, more)
			}
			if flagged := impl.Demerits(bad, penalty, true); flagged != got+3000 {
				t.Errorf("Demerits(%d, %d) = %d, but %d for flags", bad, penalty, got, flagged)
			}
			if penalty == -1000 || penalty == 999 {
				continue
			}
			if more := impl.Demerits(bad, penalty+1, false); more < got {
				t.Errorf("Demerits(%d, %d) = %d, but %d for the next penalty", bad, penalty, got, more)
			}
		}
	}
}

func TestP19DemeritsFailsForInvalidArguments(t *testing.T) {
	for _, n := range append([]int{-1001, -1000, -999, 999, 1000, 1001}, extremes...) {
		for _, flags := range []bool{false, true} {
			if got := impl.Demerits(n, 1000, flags); got != -1 {
				t.Errorf("Demerits(%d, 1000, %v) = %d", n, flags, got)
			}
			for _, penalty := range []int{-1000, -1, 0, 999} {
				if got := impl.Demerits(n, penalty, flags); (n < 0 || n > 10000) && got != -1 {
					t.Errorf("Demerits(%d, %d, %v) = %d", n, penalty, flags, got)
				}
			}
			for _, bad := range []int{0, 1, 100, 10000} {
				if got := impl.Demerits(bad, n, flags); (n < -1000 || n > 999) && got != -1 {
					t.Errorf("Demerits(%d, %d, %v) = %d", bad, n, flags, got)
				}
			}
		}
	}
}

// Promise 138.
func TestP138LinesWithoutPenaltyCostTheSquare(t *testing.T) {
	for bad := 0; bad <= impl.MaxBadness; bad++ {
		for _, penalty := range []int{0, -impl.MaxPenalty} {
			if got, want := impl.Demerits(bad, penalty, false), (bad+1)*(bad+1); got != want {
				t.Errorf("Demerits(%d, %d) = %d, want %d", bad, penalty, got, want)
			}
		}
	}
}

// Promise 20.
func TestP20AllowedLinesAreNotOverfull(t *testing.T) {
	allowed := 0
	for _, list := range someParagraphs(30) {
		eachPair(list, func(from, to int) {
			for _, width := range someWidths {
				for _, tolerance := range []int{-1, 0, 12, 99, 100, 800, 9999, 10000, 10001} {
					cost, ok := impl.LineCost(list, from, to, width, tolerance)
					if want, is := wantCost(list, from, to, width, tolerance); cost != want || ok != is {
						t.Errorf("LineCost of %v from %d to %d for %d, %d = %d, %v, want %d, %v", list, from, to, width, tolerance, cost, ok, want, is)
					}
					if !ok {
						continue
					}
					allowed++
					if fit, bad := impl.FitLine(list, from, to, width); fit == impl.Overfull || bad > tolerance {
						t.Errorf("LineCost of %v from %d to %d for %d, %d = %d, but the line fits by %d, %d", list, from, to, width, tolerance, cost, fit, bad)
					}
					if more, ok := impl.LineCost(list, from, to, width, impl.MaxBadness); !ok || more != cost {
						t.Errorf("LineCost of %v from %d to %d for %d, %d = %d, but %d, %v for MaxBadness", list, from, to, width, tolerance, cost, more, ok)
					}
				}
			}
		})
	}
	if allowed < 1000 {
		t.Errorf("only %d lines were allowed", allowed)
	}
}

func TestP20BothEndsOfALineHaveFlags(t *testing.T) {
	list := []impl.Item{
		box(10), hyphen(0, 0), box(10), hyphen(0, 0), box(10), penalty(0, 0), box(10), hyphen(0, 0), box(10), glue(0, 0, 0), box(10), hyphen(0, -1000),
		box(10), hyphen(0, -1000),
	}
	for _, c := range []struct{ from, to, want int }{
		{-1, 1, 1}, {1, 3, 3001}, {3, 5, 1}, {5, 7, 1}, {7, 9, 1}, {9, 11, 1}, {11, 13, 3001},
	} {
		if got, ok := impl.LineCost(list, c.from, c.to, 10, 0); !ok || got != c.want {
			t.Errorf("LineCost from %d to %d = %d, %v, want %d", c.from, c.to, got, ok, c.want)
		}
	}
}

func TestP20LineCostAtTheTolerance(t *testing.T) {
	list := []impl.Item{box(10), glue(4, 4, 4), box(10), hyphen(0, 50), box(10), penalty(0, -7), box(10), stop()}
	for _, c := range []struct {
		to, width, tolerance, want int
		ok                         bool
	}{
		{3, 24, 0, 51 * 51, true},
		{3, 26, 12, 63 * 63, true},
		{3, 26, 11, 0, false},
		{3, 28, 100, 151 * 151, true},
		{3, 28, 99, 0, false},
		{3, 20, 100, 151 * 151, true},
		{3, 20, 99, 0, false},
		{3, 19, 10000, 0, false},
		{3, 1000, 10000, 10051 * 10051, true},
		{3, 1000, 9999, 0, false},
		{1, 10, 0, 1, true},
		{1, 9, 10000, 0, false},
		{1, 11, 10000, 10001 * 10001, true},
		{5, 34, 0, 1 - 49, true},
		{7, 44, 0, 1, true},
	} {
		if got, ok := impl.LineCost(list, -1, c.to, c.width, c.tolerance); got != c.want || ok != c.ok {
			t.Errorf("LineCost to %d for %d, %d = %d, %v, want %d, %v", c.to, c.width, c.tolerance, got, ok, c.want, c.ok)
		}
	}
}

func TestP20LineCostFailsForInvalidArguments(t *testing.T) {
	for what, list := range invalidParagraphs() {
		if cost, ok := impl.LineCost(list, -1, len(list)-1, 10, 10000); ok || cost != 0 {
			t.Errorf("%s: LineCost = %d, %v", what, cost, ok)
		}
	}
	list := []impl.Item{box(10), glue(4, 2, 1), box(10), stop()}
	for _, n := range extremes {
		cost, ok := impl.LineCost(list, -1, 1, 10, n)
		if valid := n >= 0 && n <= 10000; ok != valid || !ok && cost != 0 {
			t.Errorf("LineCost for the tolerance %d = %d, %v", n, cost, ok)
		}
		cost, ok = impl.LineCost(list, -1, 1, n, 10000)
		if valid := n >= 10 && n <= 10000; ok != valid || !ok && cost != 0 {
			t.Errorf("LineCost for the width %d = %d, %v", n, cost, ok)
		}
	}
}
