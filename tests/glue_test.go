package tests

import (
	"math"
	"math/big"
	"testing"

	"loop.example/typesetting/impl"
)

// someGlue returns valid glue with lengths at and between their limits.
func someGlue() []impl.Glue {
	var list []impl.Glue
	for _, width := range []int{-10000, -5000, -1, 0, 3, 5000, 5001, 10000} {
		for _, stretch := range []int{0, 2, 5000, 10000} {
			for _, shrink := range []int{0, 1, 5000, 10000} {
				list = append(list, impl.Glue{Width: width, Stretch: stretch, Shrink: shrink})
			}
		}
	}
	return list
}

// invalidGlue returns glue of which one length is not valid.
func invalidGlue() []impl.Glue {
	var list []impl.Glue
	for _, n := range extremes {
		if n < -impl.MaxLength || n > impl.MaxLength {
			list = append(list, impl.Glue{Width: n, Stretch: 1, Shrink: 1})
		}
		if n < 0 || n > impl.MaxLength {
			list = append(list, impl.Glue{Width: 1, Stretch: n, Shrink: 1}, impl.Glue{Width: 1, Stretch: 1, Shrink: n})
		}
	}
	return list
}

func TestValidGlueHasLengthsInTheirLimits(t *testing.T) {
	for _, g := range someGlue() {
		if !impl.ValidGlue(g) {
			t.Errorf("%v is not valid", g)
		}
	}
	for _, g := range invalidGlue() {
		if impl.ValidGlue(g) {
			t.Errorf("%v is valid", g)
		}
	}
}

// Promise 1.
func TestP1AddGlueByLength(t *testing.T) {
	list := someGlue()
	for _, a := range list {
		if sum, ok := impl.AddGlue(a, impl.Glue{}); !ok || sum != a {
			t.Errorf("%v and zero glue = %v, %v", a, sum, ok)
		}
		for _, b := range list {
			sum, ok := impl.AddGlue(a, b)
			if other, same := impl.AddGlue(b, a); sum != other || ok != same {
				t.Errorf("AddGlue of %v and %v depends on the order", a, b)
			}
			want := impl.Glue{Width: a.Width + b.Width, Stretch: a.Stretch + b.Stretch, Shrink: a.Shrink + b.Shrink}
			if !impl.ValidGlue(want) && (ok || sum != impl.Glue{}) || impl.ValidGlue(want) && (!ok || sum != want) {
				t.Errorf("AddGlue of %v and %v = %v, %v", a, b, sum, ok)
			}
		}
	}
}

func TestP1AddGlueAtItsLimits(t *testing.T) {
	half := impl.Glue{Width: 5000, Stretch: 5000, Shrink: 5000}
	if sum, ok := impl.AddGlue(half, half); !ok || sum != (impl.Glue{Width: 10000, Stretch: 10000, Shrink: 10000}) {
		t.Errorf("sum at the limit = %v, %v", sum, ok)
	}
	low := impl.Glue{Width: -5000}
	if sum, ok := impl.AddGlue(low, low); !ok || sum != (impl.Glue{Width: -10000}) {
		t.Errorf("sum at the lower limit = %v, %v", sum, ok)
	}
	for _, more := range []impl.Glue{{Width: 5001}, {Stretch: 5001}, {Shrink: 5001}} {
		if sum, ok := impl.AddGlue(half, more); ok || sum != (impl.Glue{}) {
			t.Errorf("sum with %v beyond the limit = %v, %v", more, sum, ok)
		}
	}
	if sum, ok := impl.AddGlue(low, impl.Glue{Width: -5001}); ok || sum != (impl.Glue{}) {
		t.Errorf("sum beyond the lower limit = %v, %v", sum, ok)
	}
}

func TestP1AddGlueFailsForInvalidGlue(t *testing.T) {
	for _, bad := range invalidGlue() {
		// Each of these would make up for the length that is not valid.
		for _, good := range append(someGlue(), impl.Glue{Width: -1, Stretch: 1, Shrink: 1}) {
			if sum, ok := impl.AddGlue(bad, good); ok || sum != (impl.Glue{}) {
				t.Errorf("AddGlue of %v and %v = %v, %v", bad, good, sum, ok)
			}
			if sum, ok := impl.AddGlue(good, bad); ok || sum != (impl.Glue{}) {
				t.Errorf("AddGlue of %v and %v = %v, %v", good, bad, sum, ok)
			}
		}
	}
	wide := impl.Glue{Width: math.MaxInt, Stretch: math.MaxInt, Shrink: math.MaxInt}
	if sum, ok := impl.AddGlue(wide, wide); ok || sum != (impl.Glue{}) {
		t.Errorf("AddGlue of glue that wraps around = %v, %v", sum, ok)
	}
}

// Promise 133.
func TestP133GlueCanBeGrouped(t *testing.T) {
	r := fixed()
	list := someGlue()
	grouped := 0
	for range 20000 {
		a, b, c := list[r.Intn(len(list))], list[r.Intn(len(list))], list[r.Intn(len(list))]
		ab, ok1 := impl.AddGlue(a, b)
		bc, ok2 := impl.AddGlue(b, c)
		left, ok3 := impl.AddGlue(ab, c)
		right, ok4 := impl.AddGlue(a, bc)
		if !ok1 || !ok2 || !ok3 && !ok4 {
			continue
		}
		grouped++
		want := impl.Glue{Width: a.Width + b.Width + c.Width, Stretch: a.Stretch + b.Stretch + c.Stretch, Shrink: a.Shrink + b.Shrink + c.Shrink}
		if !ok3 || !ok4 || left != want || right != want {
			t.Errorf("AddGlue of %v, %v and %v = %v or %v", a, b, c, left, right)
		}
	}
	if grouped == 0 {
		t.Error("no glue could be grouped")
	}
}

// wantBadness is the document's definition in numbers that cannot overflow.
func wantBadness(need, have int) int {
	if need == 0 {
		return 0
	}
	if have == 0 {
		return impl.MaxBadness
	}
	cube := func(n int) *big.Int { return new(big.Int).Exp(big.NewInt(int64(n)), big.NewInt(3), nil) }
	bad := new(big.Int).Mul(big.NewInt(100), cube(need))
	bad.Quo(bad, cube(have))
	if bad.Cmp(big.NewInt(impl.MaxBadness)) > 0 {
		return impl.MaxBadness
	}
	return int(bad.Int64())
}

// Promise 2.
func TestP2BadnessGrowsWithTheNeed(t *testing.T) {
	for _, c := range []struct{ need, have, want int }{
		{0, 0, 0}, {0, 1, 0}, {0, 10000, 0}, {1, 0, 10000}, {10000, 0, 10000},
		{1, 1, 100}, {10000, 10000, 100}, {1, 10000, 0}, {10000, 1, 10000},
		{1, 2, 12}, {3, 4, 42}, {2, 1, 800}, {4, 1, 6400}, {5, 1, 10000}, {47, 10, 10000}, {46, 10, 9733}, {9999, 10000, 99},
	} {
		if got := impl.Badness(c.need, c.have); got != c.want {
			t.Errorf("Badness(%d, %d) = %d, want %d", c.need, c.have, got, c.want)
		}
	}
	for _, need := range positive {
		for _, have := range positive {
			if got, want := impl.Badness(need, have), wantBadness(need, have); got != want {
				t.Errorf("Badness(%d, %d) = %d, want %d", need, have, got, want)
			}
		}
	}
	for need := range 300 {
		for have := range 300 {
			bad := impl.Badness(need, have)
			if bad < 0 || bad > impl.MaxBadness || bad > impl.Badness(need+1, have) || bad < impl.Badness(need, have+1) {
				t.Errorf("Badness(%d, %d) = %d is out of order", need, have, bad)
			}
			if need == have && need > 0 && bad != 100 {
				t.Errorf("Badness(%d, %d) = %d", need, have, bad)
			}
		}
	}
}

func TestP2BadnessFailsForInvalidLengths(t *testing.T) {
	for _, a := range extremes {
		for _, b := range extremes {
			valid := a >= 0 && a <= impl.MaxLength && b >= 0 && b <= impl.MaxLength
			if got := impl.Badness(a, b); (got == -1) == valid {
				t.Errorf("Badness(%d, %d) = %d", a, b, got)
			}
		}
	}
}

// Promise 134.
func TestP134BadnessIsARatio(t *testing.T) {
	for _, need := range []int{0, 1, 2, 3, 7, 100, 999, 2500, 4999, 5000} {
		for _, have := range []int{0, 1, 2, 3, 11, 100, 1000, 2501, 4999, 5000} {
			if once, twice := impl.Badness(need, have), impl.Badness(2*need, 2*have); once != twice {
				t.Errorf("Badness(%d, %d) = %d, but %d for twice both", need, have, once, twice)
			}
		}
	}
}

// Promise 3.
func TestP3GlueFitsByItsWidth(t *testing.T) {
	widths := []int{0, 1, 2, 3, 4, 4999, 5000, 5001, 9999, 10000}
	for _, g := range someGlue() {
		for _, width := range widths {
			fit, bad := impl.FitGlue(g, width)
			wantFit, wantBad := impl.Overfull, impl.MaxBadness
			switch {
			case g.Width == width:
				wantFit, wantBad = impl.Exact, 0
			case g.Width < width:
				wantFit, wantBad = impl.Loose, wantBadness(width-g.Width, g.Stretch)
			case g.Width-width <= g.Shrink:
				wantFit, wantBad = impl.Tight, wantBadness(g.Width-width, g.Shrink)
			}
			if fit != wantFit || bad != wantBad {
				t.Errorf("FitGlue(%v, %d) = %d, %d, want %d, %d", g, width, fit, bad, wantFit, wantBad)
			}
			if fit == impl.Tight && bad > 100 {
				t.Errorf("FitGlue(%v, %d) is Tight with %d", g, width, bad)
			}
		}
	}
}

func TestP3FitsAreNumberedAsTheDocumentSays(t *testing.T) {
	g := impl.Glue{Width: 10, Stretch: 4, Shrink: 2}
	for _, c := range []struct{ width, fit, bad int }{{10, 1, 0}, {11, 2, 1}, {14, 2, 100}, {9, 3, 12}, {8, 3, 100}, {7, 4, 10000}} {
		if fit, bad := impl.FitGlue(g, c.width); fit != c.fit || bad != c.bad {
			t.Errorf("FitGlue(%v, %d) = %d, %d, want %d, %d", g, c.width, fit, bad, c.fit, c.bad)
		}
	}
}

func TestP3GlueFitsAtItsLimits(t *testing.T) {
	for _, c := range []struct {
		g               impl.Glue
		width, fit, bad int
	}{
		{impl.Glue{}, 0, impl.Exact, 0},
		{impl.Glue{Width: 10000}, 10000, impl.Exact, 0},
		{impl.Glue{Width: 9}, 10, impl.Loose, 10000},
		{impl.Glue{Width: 11}, 10, impl.Overfull, 10000},
		{impl.Glue{Width: 10000, Shrink: 10000}, 0, impl.Tight, 100},
		{impl.Glue{Width: 10000, Shrink: 9999}, 0, impl.Overfull, 10000},
		{impl.Glue{Width: 10000, Shrink: 9999}, 1, impl.Tight, 100},
		{impl.Glue{Width: -10000, Stretch: 10000}, 0, impl.Loose, 100},
		{impl.Glue{Width: -10000, Stretch: 10000}, 1, impl.Loose, 100},
		{impl.Glue{Width: -10000, Stretch: 10000}, 10000, impl.Loose, 800},
		{impl.Glue{Width: -1, Stretch: 5000}, 10000, impl.Loose, 800},
		{impl.Glue{Width: -10000, Stretch: 1}, 10000, impl.Loose, 10000},
		{impl.Glue{Width: -10000}, 10000, impl.Loose, 10000},
	} {
		if fit, bad := impl.FitGlue(c.g, c.width); fit != c.fit || bad != c.bad {
			t.Errorf("FitGlue(%v, %d) = %d, %d, want %d, %d", c.g, c.width, fit, bad, c.fit, c.bad)
		}
	}
}

func TestP3FitGlueFailsForInvalidArguments(t *testing.T) {
	for _, g := range invalidGlue() {
		for _, width := range []int{0, 1, 100, 10000} {
			if fit, bad := impl.FitGlue(g, width); fit != 0 || bad != -1 {
				t.Errorf("FitGlue(%v, %d) = %d, %d", g, width, fit, bad)
			}
		}
	}
	for _, g := range append(someGlue(), invalidGlue()...) {
		for _, width := range extremes {
			fit, bad := impl.FitGlue(g, width)
			if (width < 0 || width > impl.MaxLength) && (fit != 0 || bad != -1) {
				t.Errorf("FitGlue(%v, %d) = %d, %d", g, width, fit, bad)
			}
		}
	}
}
