package impl

// Limits of lengths.
const (
	MaxLength  = 10000
	MaxBadness = 10000
)

// How glue fits into a width.
const (
	Exact    = 1
	Loose    = 2
	Tight    = 3
	Overfull = 4
)

// Glue is a length that may stretch and shrink.
type Glue struct {
	Width   int
	Stretch int
	Shrink  int
}

// ValidGlue reports whether glue is valid.
func ValidGlue(g Glue) bool {
	return g.valid()
}

// AddGlue adds two glues.
func AddGlue(a Glue, b Glue) (Glue, bool) {
	// The arguments are checked before they are added, so that the sums cannot wrap around.
	if !a.valid() || !b.valid() {
		return Glue{}, false
	}
	sum := a.plus(b)
	if !sum.valid() {
		return Glue{}, false
	}
	return sum, true
}

// Badness returns how bad it is to change a length.
func Badness(need int, have int) int {
	if !within(need, 0, MaxLength) || !within(have, 0, MaxLength) {
		return -1
	}
	return badnessOf(need, have)
}

// FitGlue returns how glue fits into a width.
func FitGlue(g Glue, width int) (int, int) {
	if !g.valid() || !within(width, 0, MaxLength) {
		return 0, -1
	}
	missing := width - g.Width
	switch {
	case missing == 0:
		return Exact, 0
	case missing > 0:
		return Loose, badnessOf(missing, g.Stretch)
	case -missing <= g.Shrink:
		return Tight, badnessOf(-missing, g.Shrink)
	}
	return Overfull, MaxBadness
}

// valid reports whether all three lengths are within their limits.
func (g Glue) valid() bool {
	return within(g.Width, -MaxLength, MaxLength) &&
		within(g.Stretch, 0, MaxLength) &&
		within(g.Shrink, 0, MaxLength)
}

// plus returns the sums of the lengths, which need not be valid.
func (g Glue) plus(h Glue) Glue {
	return Glue{
		Width:   g.Width + h.Width,
		Stretch: g.Stretch + h.Stretch,
		Shrink:  g.Shrink + h.Shrink,
	}
}

// minus returns the differences of the lengths, which need not be valid.
func (g Glue) minus(h Glue) Glue {
	return Glue{
		Width:   g.Width - h.Width,
		Stretch: g.Stretch - h.Stretch,
		Shrink:  g.Shrink - h.Shrink,
	}
}

// badnessOf is Badness for every need up to twice MaxLength: glue with a
// negative Width may lack more than MaxLength, which Badness rejects.
func badnessOf(need int, have int) int {
	if need == 0 {
		return 0
	}
	if have == 0 {
		return MaxBadness
	}
	return min(100*need*need*need/(have*have*have), MaxBadness)
}

// within reports whether n is in low..high.
func within(n int, low int, high int) bool {
	return low <= n && n <= high
}

// allWithin reports whether all numbers are in low..high.
func allWithin(list []int, low int, high int) bool {
	for _, n := range list {
		if !within(n, low, high) {
			return false
		}
	}
	return true
}
