package tests

import (
	"fmt"
	"slices"
	"testing"

	"loop.example/typesetting/impl"
)

// symbol returns a formula with the three lengths.
func symbol(width, height, depth int) impl.Formula {
	return impl.Formula{Kind: impl.Symbol, Size: rect(width, height, depth)}
}

// formula returns a formula of a kind that is no symbol.
func formula(kind int, kids ...impl.Formula) impl.Formula {
	return impl.Formula{Kind: kind, Kids: kids}
}

// row returns a row of formulas.
func row(kids ...impl.Formula) impl.Formula {
	return formula(impl.Row, kids...)
}

// chain returns a symbol in so many roots.
func chain(levels int) impl.Formula {
	f := symbol(1, 2, 3)
	for range levels {
		f = formula(impl.Root, f)
	}
	return f
}

// fullRows returns rows with as many kids as possible in each of the levels above the given formula.
func fullRows(levels int, f impl.Formula) impl.Formula {
	for range levels {
		f = row(slices.Repeat([]impl.Formula{f}, impl.MaxKids)...)
	}
	return f
}

// randomFormula returns a valid formula with at most so many levels of kids. Most of its symbols are small, and many of its rows are short.
func randomFormula(r randomSource, levels int) impl.Formula {
	kind := 1 + r.Intn(8)
	if levels == 0 || kind == impl.Symbol {
		most := []int{3, 3, 12, impl.MaxGlyph}[r.Intn(4)]
		return symbol(r.Intn(most+1), r.Intn(most+1), r.Intn(most+1))
	}
	n := 2
	switch kind {
	case impl.Root:
		n = 1
	case impl.Fraction, impl.Above, impl.Below:
	default:
		kind = impl.Row
		n = []int{0, 1, 1, 2, 2, 3, impl.MaxKids}[r.Intn(7)]
	}
	f := formula(kind)
	for range n {
		f.Kids = append(f.Kids, randomFormula(r, levels-1))
	}
	return f
}

// someFormulas returns valid formulas.
func someFormulas() []impl.Formula {
	x, large, nothing := symbol(5, 6, 1), symbol(100, 100, 100), symbol(0, 0, 0)
	list := []impl.Formula{
		x, large, nothing, row(), row(x), row(row()), row(row(), row(row(), row())), row(x, row(x, x), x),
		row(row(row(row(row(row(x)))))), row(row(row(row(row(row()))))), chain(6), formula(impl.Root, row()),
		fullRows(1, large), fullRows(2, large), fullRows(3, large), row(fullRows(1, x)), row(fullRows(1, x), row()),
		row(row(x, x, x), row(x, x, x)), row(row(x, x, x), row(x, x, x, x)), formula(impl.Root, row(row(x, x, x), row(x, x, x, x))),
	}
	for _, kind := range []int{impl.Fraction, impl.Above, impl.Below} {
		for _, a := range []impl.Formula{x, large, nothing, row()} {
			for _, b := range []impl.Formula{x, large, nothing, row()} {
				list = append(list, formula(kind, a, b), row(formula(kind, row(a, row(b)), b), x))
			}
		}
	}
	r := fixed()
	for i := range 3000 {
		list = append(list, randomFormula(r, i%(impl.MaxDeep+1)))
	}
	return list
}

// invalidFormulas returns formulas that are not valid, by what is wrong.
func invalidFormulas() map[string]impl.Formula {
	x := symbol(5, 6, 1)
	list := map[string]impl.Formula{
		"the zero formula":             {},
		"a symbol with a kid":          {Kind: impl.Symbol, Kids: []impl.Formula{x}},
		"a row with seven kids":        row(slices.Repeat([]impl.Formula{x}, 7)...),
		"a row with 10000 kids":        row(slices.Repeat([]impl.Formula{x}, 10000)...),
		"a row with a zero formula":    row(x, impl.Formula{}, x),
		"a root without kids":          formula(impl.Root),
		"a root with two kids":         formula(impl.Root, x, x),
		"seven levels of roots":        chain(7),
		"many levels of roots":         chain(10000),
		"seven levels behind a symbol": row(x, chain(6)),
		"seven levels of rows":         row(row(row(row(row(row(row(x))))))),
		"seven levels of empty rows":   row(row(row(row(row(row(row(row()))))))),
		"seven levels of full rows":    fullRows(7, x),
		"a kid of itself":              kidOfItself(),
	}
	for _, kind := range []int{impl.Fraction, impl.Above, impl.Below} {
		for _, n := range []int{0, 1, 3, 6, 7, 10000} {
			list[fmt.Sprint("kind ", kind, " with kids: ", n)] = formula(kind, slices.Repeat([]impl.Formula{x}, n)...)
		}
		list[fmt.Sprint("a first kid of ", kind)] = formula(kind, formula(impl.Root), x)
		list[fmt.Sprint("a second kid of ", kind)] = formula(kind, x, formula(impl.Root))
	}
	for _, n := range append([]int{7, 8}, extremes...) {
		if n < 1 || n > 6 {
			for kids := range 3 {
				list[fmt.Sprint("the kind ", n, " with kids: ", kids)] = formula(n, slices.Repeat([]impl.Formula{x}, kids)...)
			}
		}
		if n < 0 || n > 100 {
			for i, f := range []impl.Formula{symbol(n, 1, 1), symbol(1, n, 1), symbol(1, 1, n)} {
				list[fmt.Sprint("length ", i, " of ", n)] = f
				list[fmt.Sprint("a kid with length ", i, " of ", n)] = formula(impl.Root, row(x, f))
			}
		}
		if n != 0 {
			for i, b := range []impl.Box{rect(n, 0, 0), rect(0, n, 0), rect(0, 0, n)} {
				list[fmt.Sprint("a row with length ", i, " of ", n)] = impl.Formula{Kind: impl.Row, Size: b}
				list[fmt.Sprint("a root with length ", i, " of ", n)] = impl.Formula{Kind: impl.Root, Size: b, Kids: []impl.Formula{x}}
				for kind := impl.Fraction; kind <= impl.Below; kind++ {
					list[fmt.Sprint("kind ", kind, " with length ", i, " of ", n)] = impl.Formula{Kind: kind, Size: b, Kids: []impl.Formula{x, x}}
				}
			}
		}
	}
	return list
}

// kidOfItself returns a row whose last kid has the kids of the row.
func kidOfItself() impl.Formula {
	f := row(symbol(1, 1, 1), row())
	f.Kids[1].Kids = f.Kids
	return f
}

// visitFormulas goes over a formula and all that it consists of.
func visitFormulas(f impl.Formula, visit func(f impl.Formula)) {
	visit(f)
	for _, kid := range f.Kids {
		visitFormulas(kid, visit)
	}
}

// sameFormula reports whether two formulas are equal.
func sameFormula(a, b impl.Formula) bool {
	return a.Kind == b.Kind && a.Size == b.Size && slices.EqualFunc(a.Kids, b.Kids, sameFormula)
}

// cloneFormula returns a formula that shares no memory with another.
func cloneFormula(f impl.Formula) impl.Formula {
	f.Kids = slices.Clone(f.Kids)
	for i, kid := range f.Kids {
		f.Kids[i] = cloneFormula(kid)
	}
	return f
}

// wantLayout returns the box of a valid formula after the table of the specification.
func wantLayout(f impl.Formula) impl.Box {
	var a, b impl.Box
	if len(f.Kids) > 0 {
		a = wantLayout(f.Kids[0])
	}
	if len(f.Kids) > 1 {
		b = wantLayout(f.Kids[1])
	}
	u := max(3, a.Height-3+b.Depth)
	v := max(3, a.Depth+b.Height-3)
	switch f.Kind {
	case impl.Symbol:
		return f.Size
	case impl.Fraction:
		return rect(max(a.Width, b.Width), 3+1+1+a.Height+a.Depth, max(1+b.Height+b.Depth-3, 0))
	case impl.Above:
		return rect(a.Width+b.Width, max(a.Height, u+b.Height), max(a.Depth, b.Depth-u))
	case impl.Below:
		return rect(a.Width+b.Width, max(a.Height, b.Height-v), max(a.Depth, v+b.Depth))
	case impl.Root:
		return rect(a.Width+3, a.Height+1+1, a.Depth)
	}
	all := impl.Box{}
	for _, kid := range f.Kids {
		k := wantLayout(kid)
		all = rect(all.Width+k.Width, max(all.Height, k.Height), max(all.Depth, k.Depth))
	}
	return all
}

// wantLevels returns the number of levels of kids below a formula.
func wantLevels(f impl.Formula) int {
	levels := 0
	for _, kid := range f.Kids {
		levels = max(levels, 1+wantLevels(kid))
	}
	return levels
}

// replaceRow replaces one row in a row by its kids, in which there are none, and reports whether there was one.
func replaceRow(f impl.Formula) (impl.Formula, bool) {
	for i, kid := range f.Kids {
		if next, ok := replaceRow(kid); ok {
			kids := slices.Clone(f.Kids)
			kids[i] = next
			return impl.Formula{Kind: f.Kind, Kids: kids}, true
		}
	}
	for i, kid := range f.Kids {
		if f.Kind == impl.Row && kid.Kind == impl.Row {
			return row(slices.Concat(f.Kids[:i], kid.Kids, f.Kids[i+1:])...), true
		}
	}
	return f, false
}

// wantFlat replaces row after row, and reports whether none has too many kids in the end.
func wantFlat(f impl.Formula) (impl.Formula, bool) {
	for replaced := true; replaced; {
		f, replaced = replaceRow(f)
	}
	ok := true
	visitFormulas(f, func(part impl.Formula) {
		ok = ok && len(part.Kids) <= impl.MaxKids
	})
	if !ok {
		return impl.Formula{}, false
	}
	return f, true
}

func TestValidFormulaKnowsTheKinds(t *testing.T) {
	for _, f := range someFormulas() {
		if !impl.ValidFormula(f) {
			t.Errorf("ValidFormula of %v with %d levels fails", f, wantLevels(f))
		}
	}
	for what, f := range invalidFormulas() {
		if impl.ValidFormula(f) {
			t.Errorf("ValidFormula of %s holds", what)
		}
	}
	for n := range 20 {
		if got := impl.ValidFormula(row(slices.Repeat([]impl.Formula{row()}, n)...)); got != (n <= 6) {
			t.Errorf("ValidFormula of a row with %d kids = %v", n, got)
		}
		if got := impl.ValidFormula(chain(n)); got != (n <= 6) {
			t.Errorf("ValidFormula of %d roots = %v", n, got)
		}
	}
	for _, n := range extremes {
		want := n >= 0 && n <= 100
		for _, f := range []impl.Formula{symbol(n, 0, 100), symbol(100, n, 0), symbol(0, 100, n), formula(impl.Root, symbol(n, n, n))} {
			if impl.ValidFormula(f) != want {
				t.Errorf("ValidFormula of %v = %v", f, !want)
			}
		}
	}
}

func TestValidFormulaTakesEmptyKidsForNone(t *testing.T) {
	for _, f := range []impl.Formula{symbol(1, 2, 3), row()} {
		f.Kids = []impl.Formula{}
		flat, ok := impl.FlattenFormula(f)
		if !impl.ValidFormula(f) || impl.FormulaSize(f) != 1 || !ok || !sameFormula(flat, f) {
			t.Errorf("%v with empty kids is not as without kids", f)
		}
		f.Kids = make([]impl.Formula, 3)[:0]
		if !impl.ValidFormula(f) {
			t.Errorf("%v with spare memory for kids is not valid", f)
		}
	}
}

// Promise 70.
func TestP70RowsOfFormulasAreRowsOfBoxes(t *testing.T) {
	rows, wide := 0, 0
	for _, all := range someFormulas() {
		visitFormulas(all, func(f impl.Formula) {
			if f.Kind != impl.Row {
				return
			}
			var boxes []impl.Box
			for _, kid := range f.Kids {
				boxes = append(boxes, impl.LayoutFormula(kid))
			}
			got := impl.LayoutFormula(f)
			want, ok := impl.RowBox(boxes)
			if ok && got != want {
				t.Errorf("LayoutFormula of %v = %v, want %v", f, got, want)
			}
			rows++
			if !ok {
				wide++
			}
		})
	}
	if rows < 3000 || wide == 0 {
		t.Errorf("there are only %d rows, %d of them too wide for a box", rows, wide)
	}
}

func TestP70LayoutsAreThoseOfTheTable(t *testing.T) {
	for _, f := range someFormulas() {
		if got, want := impl.LayoutFormula(f), wantLayout(f); got != want {
			t.Errorf("LayoutFormula of %v = %v, want %v", f, got, want)
		}
	}
	for what, f := range invalidFormulas() {
		if got := impl.LayoutFormula(f); got != (impl.Box{}) {
			t.Errorf("LayoutFormula of %s = %v", what, got)
		}
	}
}

func TestP70LayoutsOfEachKind(t *testing.T) {
	x, two, deep := symbol(5, 6, 1), symbol(3, 4, 0), symbol(1, 0, 20)
	nothing := symbol(0, 0, 0)
	for _, c := range []struct {
		f    impl.Formula
		want impl.Box
	}{
		{x, rect(5, 6, 1)},
		{row(), rect(0, 0, 0)},
		{row(row(), row(row())), rect(0, 0, 0)},
		{row(x, two), rect(8, 6, 1)},
		{row(x, row(two, deep), row()), rect(9, 6, 20)},
		{fullRows(3, symbol(100, 7, 8)), rect(21600, 7, 8)},
		{fullRows(6, symbol(100, 7, 8)), rect(4665600, 7, 8)},
		{formula(impl.Fraction, x, two), rect(5, 12, 2)},
		{formula(impl.Fraction, two, x), rect(5, 9, 5)},
		{formula(impl.Fraction, nothing, nothing), rect(0, 5, 0)},
		{formula(impl.Fraction, row(), row()), rect(0, 5, 0)},
		{formula(impl.Fraction, x, symbol(9, 1, 1)), rect(9, 12, 0)},
		{formula(impl.Fraction, x, symbol(9, 1, 2)), rect(9, 12, 1)},
		{formula(impl.Above, x, two), rect(8, 7, 1)},
		{formula(impl.Above, nothing, nothing), rect(0, 3, 0)},
		{formula(impl.Above, x, deep), rect(6, 23, 1)},
		{formula(impl.Above, symbol(1, 50, 0), two), rect(4, 51, 0)},
		{formula(impl.Above, symbol(1, 2, 0), deep), rect(2, 19, 1)},
		{formula(impl.Above, row(), deep), rect(1, 17, 3)},
		{formula(impl.Below, x, two), rect(8, 6, 3)},
		{formula(impl.Below, nothing, nothing), rect(0, 0, 3)},
		{formula(impl.Below, x, deep), rect(6, 6, 23)},
		{formula(impl.Below, deep, two), rect(4, 0, 21)},
		{formula(impl.Below, row(), symbol(1, 20, 2)), rect(1, 3, 19)},
		{formula(impl.Root, x), rect(8, 8, 1)},
		{formula(impl.Root, row()), rect(3, 2, 0)},
		{chain(6), rect(19, 14, 3)},
	} {
		if got := impl.LayoutFormula(c.f); got != c.want {
			t.Errorf("LayoutFormula of %v = %v, want %v", c.f, got, c.want)
		}
	}
}

// Promise 71.
func TestP71FormulasAreAsWideAsTheirParts(t *testing.T) {
	kids := map[int]int{}
	for _, f := range someFormulas() {
		all := impl.LayoutFormula(f)
		if all.Width < 0 || all.Height < 0 || all.Depth < 0 {
			t.Errorf("LayoutFormula of %v = %v", f, all)
		}
		for _, kid := range f.Kids {
			kids[f.Kind]++
			part := impl.LayoutFormula(kid)
			if all.Width < part.Width || all.Height+all.Depth < part.Height+part.Depth {
				t.Errorf("LayoutFormula of %v = %v, which is less than %v of %v", f, all, part, kid)
			}
		}
	}
	for kind := impl.Row; kind <= impl.Root; kind++ {
		if kids[kind] < 100 {
			t.Errorf("only %d kids of the kind %d were checked", kids[kind], kind)
		}
	}
}

// Promise 72.
func TestP72SizesCountAllParts(t *testing.T) {
	for _, f := range someFormulas() {
		size, parts := impl.FormulaSize(f), 0
		visitFormulas(f, func(impl.Formula) { parts++ })
		if size != parts {
			t.Errorf("FormulaSize of %v = %d, want %d", f, size, parts)
		}
		sum := 0
		for _, kid := range f.Kids {
			sum += impl.FormulaSize(kid)
		}
		if size != sum+1 {
			t.Errorf("FormulaSize of %v = %d, but %d of its kids", f, size, sum)
		}
	}
	for _, c := range []struct {
		f    impl.Formula
		want int
	}{
		{symbol(0, 0, 0), 1}, {row(), 1}, {row(row(), row(row())), 4}, {chain(6), 7}, {fullRows(6, symbol(1, 1, 1)), 55987},
	} {
		if got := impl.FormulaSize(c.f); got != c.want {
			t.Errorf("FormulaSize of %v = %d, want %d", c.f, got, c.want)
		}
	}
}

func TestP72InvalidFormulasHaveNoSize(t *testing.T) {
	for what, f := range invalidFormulas() {
		if got := impl.FormulaSize(f); got != 0 {
			t.Errorf("FormulaSize of %s = %d", what, got)
		}
	}
}

// Promise 73.
func TestP73FlatteningKeepsTheLayout(t *testing.T) {
	shorter, invalid := 0, 0
	for _, f := range someFormulas() {
		flat, ok := impl.FlattenFormula(f)
		want, is := wantFlat(f)
		if ok != is || !sameFormula(flat, want) {
			t.Errorf("FlattenFormula of %v = %v, %v, want %v, %v", f, flat, ok, want, is)
		}
		if !ok {
			invalid++
			continue
		}
		if !impl.ValidFormula(flat) || impl.LayoutFormula(flat) != impl.LayoutFormula(f) {
			t.Errorf("FlattenFormula of %v = %v, which has another layout", f, flat)
		}
		size, before := impl.FormulaSize(flat), impl.FormulaSize(f)
		if size > before {
			t.Errorf("FlattenFormula of %v has the size %d", f, size)
		}
		if size < before {
			shorter++
		}
		again, ok := impl.FlattenFormula(flat)
		if !ok || !sameFormula(again, flat) {
			t.Errorf("FlattenFormula of %v = %v, %v", flat, again, ok)
		}
	}
	if shorter < 300 || invalid < 100 {
		t.Errorf("only %d formulas are shorter, and %d cannot be flattened", shorter, invalid)
	}
}

func TestP73RowsInRowsAreReplacedByTheirKids(t *testing.T) {
	x, y, z := symbol(1, 0, 0), symbol(2, 0, 0), symbol(3, 0, 0)
	pair := func(a, b impl.Formula) impl.Formula { return formula(impl.Fraction, a, b) }
	for _, c := range []struct{ f, want impl.Formula }{
		{x, x},
		{row(), row()},
		{row(x), row(x)},
		{row(row()), row()},
		{row(row(), row(row(), row())), row()},
		{row(x, row(), y), row(x, y)},
		{row(row(x, y), z), row(x, y, z)},
		{row(x, row(y, row(z, row(x)), z), y), row(x, y, z, x, z, y)},
		{row(row(row(row(row(row(x)))))), row(x)},
		{pair(row(x), row()), pair(row(x), row())},
		{pair(row(row(x), y), row(row())), pair(row(x, y), row())},
		{row(pair(row(x), y), row(z)), row(pair(row(x), y), z)},
		{row(x, row(pair(row(row(y)), z))), row(x, pair(row(y), z))},
		{formula(impl.Root, row(row(x, y))), formula(impl.Root, row(x, y))},
		{row(fullRows(1, x), row(), row(row())), fullRows(1, x)},
		{row(row(x, y, z), row(x, y, z)), row(x, y, z, x, y, z)},
	} {
		flat, ok := impl.FlattenFormula(c.f)
		if !ok || !sameFormula(flat, c.want) {
			t.Errorf("FlattenFormula of %v = %v, %v, want %v", c.f, flat, ok, c.want)
		}
	}
}

func TestP73FlattenFormulaFailsForInvalidFormulasAndResults(t *testing.T) {
	x := symbol(1, 2, 3)
	list := invalidFormulas()
	list["a row with seven kids in the end"] = row(fullRows(1, x), x)
	list["a row in a root with seven kids in the end"] = formula(impl.Root, row(row(x, x, x), x, row(x, x, x)))
	list["a row in a row in the end"] = row(x, formula(impl.Above, x, row(fullRows(1, x), row(row(x)))))
	list["as many rows as possible"] = fullRows(6, x)
	for what, f := range list {
		flat, ok := impl.FlattenFormula(f)
		if ok || !sameFormula(flat, impl.Formula{}) || flat.Kids != nil {
			t.Errorf("FlattenFormula of %s = %v, %v", what, flat, ok)
		}
	}
	if flat, ok := impl.FlattenFormula(fullRows(5, row())); !ok || !sameFormula(flat, row()) {
		t.Errorf("FlattenFormula of rows without symbols = %v, %v", flat, ok)
	}
}

func TestFormulasAreNotChangedOrShared(t *testing.T) {
	kid := row(symbol(1, 2, 3), row(symbol(4, 5, 6)))
	list := append(someFormulas(), formula(impl.Fraction, kid, kid), row(formula(impl.Root, kid), formula(impl.Above, kid, kid)))
	for _, f := range list {
		before := cloneFormula(f)
		flat, ok := impl.FlattenFormula(f)
		impl.ValidFormula(f)
		impl.LayoutFormula(f)
		impl.FormulaSize(f)
		if !sameFormula(f, before) {
			t.Fatalf("a function changes %v to %v", before, f)
		}
		if !ok {
			continue
		}
		used := map[*impl.Formula]bool{}
		visitFormulas(f, func(part impl.Formula) {
			for i := range part.Kids {
				used[&part.Kids[i]] = true
			}
		})
		visitFormulas(flat, func(part impl.Formula) {
			all := part.Kids[:cap(part.Kids)]
			for i := range all {
				if used[&all[i]] {
					t.Errorf("FlattenFormula of %v shares memory", f)
				}
				used[&all[i]] = true
			}
		})
	}
}
