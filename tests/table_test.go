package tests

import (
	"fmt"
	"slices"
	"testing"

	"loop.example/typesetting/impl"
)

// cells returns a row of cells that span the given columns and have the given widths, in turn.
func cells(spansAndWidths ...int) []impl.Cell {
	var row []impl.Cell
	for i := 0; i < len(spansAndWidths); i += 2 {
		row = append(row, impl.Cell{Span: spansAndWidths[i], Width: spansAndWidths[i+1]})
	}
	return row
}

// randomTable returns up to n rows of cells, none of which spans more columns than given. Many cells have the width 0.
func randomTable(r randomSource, columns, n, most int) [][]impl.Cell {
	var rows [][]impl.Cell
	for range r.Intn(n + 1) {
		var row []impl.Cell
		for rest := columns; rest > 0; {
			span := 1 + r.Intn(min(rest, most))
			row = append(row, impl.Cell{Span: span, Width: max(r.Intn(30)-8, 0)})
			rest -= span
		}
		rows = append(rows, row)
	}
	return rows
}

// someTables goes over tables with their numbers of columns.
func someTables(visit func(rows [][]impl.Cell, columns int)) {
	r := fixed()
	for columns := 1; columns <= impl.MaxColumns; columns++ {
		visit(nil, columns)
		for range 100 {
			visit(randomTable(r, columns, 4, columns), columns)
			visit(randomTable(r, columns, impl.MaxRows, 3), columns)
		}
	}
	visit([][]impl.Cell{cells(8, 1000)}, 8)
	visit([][]impl.Cell{slices.Repeat(cells(1, 1000), 8)}, 8)
	visit(slices.Repeat([][]impl.Cell{cells(3, 0, 5, 1000), cells(5, 1000, 3, 7)}, 5), 8)
}

// invalidTables returns tables of three columns that are not valid, by what is wrong.
func invalidTables() map[string][][]impl.Cell {
	list := map[string][][]impl.Cell{
		"an empty row":            {cells(3, 1), {}},
		"only an empty row":       {nil},
		"a row that is too short": {cells(1, 1, 1, 1)},
		"a row that is too long":  {cells(2, 1, 2, 1)},
		"a cell too many":         {cells(3, 1, 1, 1)},
		"a short row at the end":  {cells(3, 1), cells(1, 1, 2, 1), cells(2, 1)},
		"11 rows":                 slices.Repeat([][]impl.Cell{cells(3, 1)}, 11),
		"10000 rows":              slices.Repeat([][]impl.Cell{cells(3, 1)}, 10000),
		"10000 cells":             {slices.Repeat(cells(1, 1), 10000)},
		"spans that cancel out":   {cells(4, 1, -1, 1)},
		"a span of 0":             {cells(3, 1, 0, 1)},
		"spans that wrap around":  {cells(1<<62, 1, 1<<62, 1, 1<<62, 1, 1<<62, 1, 3, 1)},
	}
	for _, n := range append([]int{999, 1000, 1001}, extremes...) {
		if n != 1 {
			list[fmt.Sprint("a first span of ", n)] = [][]impl.Cell{cells(n, 1, 2, 1)}
			list[fmt.Sprint("a last span of ", n)] = [][]impl.Cell{cells(2, 1, n, 1)}
			list[fmt.Sprint("spans of ", n, " and the rest")] = [][]impl.Cell{cells(n, 1, 3-n, 1)}
		}
		if n < 0 || n > 1000 {
			list[fmt.Sprint("a width of ", n)] = [][]impl.Cell{cells(3, 1), cells(1, 1, 2, n)}
		}
	}
	delete(list, "spans of 2 and the rest") // these are 2 and 1
	return list
}

// invalidColumns returns lists that are not the widths of three columns.
func invalidColumns() [][]int {
	list := [][]int{nil, {}, slices.Repeat([]int{1}, 9), slices.Repeat([]int{0}, 10000)}
	for _, n := range extremes {
		if n < 0 || n > 10000 {
			list = append(list, []int{n}, []int{n, 1, 1}, []int{1, 1, n}, []int{n, -n, 1})
		}
	}
	return list
}

// wantFits reports whether all cells fit into columns.
func wantFits(rows [][]impl.Cell, widths []int) bool {
	for _, row := range rows {
		at := 0
		for _, cell := range row {
			sum := 0
			for range cell.Span {
				sum += widths[at]
				at++
			}
			if cell.Width > sum {
				return false
			}
		}
	}
	return true
}

// wantColumns finds the widths of columns from left to right: it begins with
// columns that are wide enough, and narrows each as far as the cells allow
// that end with it.
func wantColumns(rows [][]impl.Cell, columns int) []int {
	widths := slices.Repeat([]int{1000}, columns)
	for c := range widths {
		for n := 0; ; n++ {
			widths[c] = n
			if wantFits(rows, widths) {
				break
			}
		}
	}
	return widths
}

// Promise 42.
func TestP42AllCellsFit(t *testing.T) {
	empty := 0
	someTables(func(rows [][]impl.Cell, columns int) {
		if !impl.ValidTable(rows, columns) {
			t.Fatalf("%v with %d columns is not valid", rows, columns)
		}
		widths := impl.ColumnWidths(rows, columns)
		if want := wantColumns(rows, columns); !slices.Equal(widths, want) {
			t.Errorf("ColumnWidths of %v = %v, want %v", rows, widths, want)
			return
		}
		if !impl.FitsColumns(rows, widths) {
			t.Errorf("the cells of %v do not fit into ColumnWidths %v", rows, widths)
		}
		for i := range widths {
			if widths[i] == 0 {
				empty++
			}
			widths[i]--
			if impl.FitsColumns(rows, widths) {
				t.Errorf("the cells of %v fit into %v, which has a narrower column %d", rows, widths, i)
			}
			widths[i]++
		}
	})
	if empty < 500 {
		t.Errorf("only %d columns have the width 0", empty)
	}
}

func TestP42ColumnsWithoutWidth(t *testing.T) {
	for _, c := range []struct {
		rows [][]impl.Cell
		want []int
	}{
		{nil, []int{0, 0, 0}},
		{[][]impl.Cell{cells(3, 0)}, []int{0, 0, 0}},
		{[][]impl.Cell{cells(3, 1000)}, []int{0, 0, 1000}},
		{[][]impl.Cell{cells(1, 7, 2, 7)}, []int{7, 0, 7}},
		{[][]impl.Cell{cells(1, 0, 1, 9, 1, 0), cells(3, 9)}, []int{0, 9, 0}},
		{[][]impl.Cell{cells(1, 5, 1, 0, 1, 0), cells(2, 3, 1, 0)}, []int{5, 0, 0}},
		{[][]impl.Cell{cells(3, 20), cells(2, 12, 1, 0), cells(1, 5, 2, 3)}, []int{5, 7, 8}},
		{[][]impl.Cell{cells(1, 1000, 1, 1000, 1, 1000), cells(3, 1000)}, []int{1000, 1000, 1000}},
	} {
		equalInts(t, fmt.Sprint("ColumnWidths of ", c.rows), impl.ColumnWidths(c.rows, 3), c.want...)
	}
}

func TestP42InvalidTablesHaveNoColumns(t *testing.T) {
	for what, rows := range invalidTables() {
		if impl.ValidTable(rows, 3) {
			t.Errorf("%s is valid", what)
		}
		if got := impl.ColumnWidths(rows, 3); got != nil {
			t.Errorf("%s: ColumnWidths = %v", what, got)
		}
		if impl.FitsColumns(rows, []int{10000, 10000, 10000}) {
			t.Errorf("%s: FitsColumns", what)
		}
	}
	for _, n := range append([]int{3, 4, 7, 8, 9}, extremes...) {
		valid := n >= 1 && n <= 8
		if impl.ValidTable(nil, n) != valid || (impl.ColumnWidths(nil, n) != nil) != valid {
			t.Errorf("a table without rows and with %d columns: ValidTable = %v, ColumnWidths = %v", n, !valid, impl.ColumnWidths(nil, n))
		}
		if rows := [][]impl.Cell{cells(n, 0)}; impl.ValidTable(rows, n) != valid || (impl.ColumnWidths(rows, n) != nil) != valid {
			t.Errorf("a table with %d columns: ValidTable = %v, ColumnWidths = %v", n, !valid, impl.ColumnWidths(rows, n))
		}
	}
	ten := slices.Repeat([][]impl.Cell{cells(8, 1000)}, 10)
	if !impl.ValidTable(ten, 8) {
		t.Error("a table with 10 rows is not valid")
	}
}

// Promise 43.
func TestP43MoreRowsHaveWiderColumns(t *testing.T) {
	r := fixed()
	for range 500 {
		columns := 1 + r.Intn(8)
		rows := randomTable(r, columns, 10, 1)
		all := impl.ColumnWidths(rows, columns)
		if len(all) != columns {
			t.Fatalf("ColumnWidths of %v = %v", rows, all)
		}
		var some [][]impl.Cell
		for _, row := range rows {
			if r.Intn(2) == 0 {
				some = append(some, row)
			}
		}
		for i, width := range impl.ColumnWidths(some, columns) {
			if width > all[i] {
				t.Errorf("column %d of %v has the width %d, but with all rows %d", i, some, width, all[i])
			}
		}
	}
}

// Promise 44.
func TestP44WiderColumnsFitAsWell(t *testing.T) {
	r := fixed()
	fits := 0
	someTables(func(rows [][]impl.Cell, columns int) {
		for range 10 {
			widths := impl.ColumnWidths(rows, columns)
			for i := range widths {
				widths[i] = max(widths[i]+r.Intn(7)-2, 0)
			}
			fit := impl.FitsColumns(rows, widths)
			if fit != wantFits(rows, widths) {
				t.Errorf("FitsColumns of %v into %v = %v", rows, widths, fit)
			}
			if !fit {
				continue
			}
			fits++
			i := r.Intn(columns)
			for _, more := range []int{1, 5, 10000 - widths[i]} {
				widths[i] += more
				if !impl.FitsColumns(rows, widths) {
					t.Errorf("%v does not fit into %v, which is wider", rows, widths)
				}
				widths[i] -= more
			}
		}
	})
	if fits < 1000 {
		t.Errorf("only %d tables fit", fits)
	}
}

func TestP44FitsColumnsFailsForInvalidWidths(t *testing.T) {
	for _, widths := range invalidColumns() {
		rows := [][]impl.Cell{cells(max(len(widths), 1), 0)}
		if impl.FitsColumns(rows, widths) || impl.FitsColumns(nil, widths) {
			t.Errorf("FitsColumns of %v into %v", rows, widths)
		}
	}
	rows := [][]impl.Cell{cells(1, 0, 1, 0)}
	for _, widths := range [][]int{{10000}, {0, 0, 0}} {
		if impl.FitsColumns(rows, widths) {
			t.Errorf("FitsColumns of %v into %v", rows, widths)
		}
	}
	if !impl.FitsColumns(rows, []int{0, 0}) || !impl.FitsColumns(rows, []int{10000, 10000}) || !impl.FitsColumns(nil, []int{0}) {
		t.Error("FitsColumns fails for columns at the limits")
	}
}

// wantStretched returns the widths of columns that are widened to a total width.
func wantStretched(widths []int, total int) []int {
	border := func(n int) int {
		passed, all := 0, 0
		for i, width := range widths {
			if i < n {
				passed += width
			}
			all += width
		}
		if all == 0 {
			passed, all = n, len(widths)
		}
		return total * passed / all
	}
	var wider []int
	for i := range widths {
		wider = append(wider, border(i+1)-border(i))
	}
	return wider
}

// Promise 45.
func TestP45StretchedColumnsHaveTheTotalWidth(t *testing.T) {
	r := fixed()
	for range 5000 {
		var widths []int
		sum := 0
		for range 1 + r.Intn(8) {
			width := max(r.Intn(30)-10, 0)
			widths = append(widths, width)
			sum += width
		}
		for _, total := range []int{sum, sum + 1, sum + r.Intn(50), 10000} {
			wider := impl.StretchColumns(widths, total)
			equalInts(t, fmt.Sprintf("StretchColumns of %v to %d", widths, total), wider, wantStretched(widths, total)...)
			all := 0
			for i, width := range wider {
				all += width
				if width < widths[i] {
					t.Errorf("StretchColumns of %v to %d = %v, which has a narrower column", widths, total, wider)
				}
			}
			if all != total {
				t.Errorf("StretchColumns of %v to %d = %v", widths, total, wider)
			}
		}
	}
}

func TestP45ColumnsWithoutWidthAreStretched(t *testing.T) {
	for _, c := range []struct {
		widths []int
		total  int
		want   []int
	}{
		{[]int{0}, 0, []int{0}},
		{[]int{0}, 10000, []int{10000}},
		{[]int{0, 0, 0}, 0, []int{0, 0, 0}},
		{[]int{0, 0, 0}, 2, []int{0, 1, 1}},
		{[]int{0, 0, 0}, 10000, []int{3333, 3333, 3334}},
		{[]int{0, 0, 0, 0, 0, 0, 0, 0}, 5, []int{0, 1, 0, 1, 1, 0, 1, 1}},
		{[]int{0, 5, 0, 5, 0}, 21, []int{0, 10, 0, 11, 0}},
		{[]int{1, 0, 1, 0, 1}, 10, []int{3, 0, 3, 0, 4}},
		{[]int{0, 1, 0}, 10000, []int{0, 10000, 0}},
		{[]int{0, 10000, 0}, 10000, []int{0, 10000, 0}},
		{[]int{5000, 5000}, 10000, []int{5000, 5000}},
		{[]int{1, 2, 3}, 6, []int{1, 2, 3}},
		{[]int{1, 2, 3}, 7, []int{1, 2, 4}},
	} {
		equalInts(t, fmt.Sprintf("StretchColumns of %v to %d", c.widths, c.total), impl.StretchColumns(c.widths, c.total), c.want...)
	}
}

func TestP45StretchColumnsFailsForInvalidArguments(t *testing.T) {
	for _, widths := range invalidColumns() {
		for _, total := range []int{0, 10, 10000} {
			if got := impl.StretchColumns(widths, total); got != nil {
				t.Errorf("StretchColumns of %v to %d = %v", widths, total, got)
			}
		}
	}
	for _, total := range extremes {
		for _, c := range []struct {
			widths []int
			least  int
		}{{[]int{0}, 0}, {[]int{0, 0, 0}, 0}, {[]int{1, 0, 1}, 2}, {[]int{9999}, 9999}, {[]int{4999, 5001}, 10000}, {[]int{5000, 5001}, 10001}, {slices.Repeat([]int{10000}, 8), 80000}} {
			valid := total >= c.least && total <= 10000
			if got := impl.StretchColumns(c.widths, total); (got != nil) != valid {
				t.Errorf("StretchColumns of %v to %d = %v", c.widths, total, got)
			}
		}
	}
}

// Promise 139.
func TestP139SingleCellsDetermineTheirColumns(t *testing.T) {
	r := fixed()
	for columns := 1; columns <= 8; columns++ {
		for range 100 {
			var row []impl.Cell
			var widths []int
			for range columns {
				width := []int{0, 0, 1, r.Intn(1001), 1000}[r.Intn(5)]
				row = append(row, impl.Cell{Span: 1, Width: width})
				widths = append(widths, width)
			}
			equalInts(t, fmt.Sprint("ColumnWidths of ", row), impl.ColumnWidths([][]impl.Cell{row}, columns), widths...)
		}
	}
}

func TestTablesAreNotChangedOrShared(t *testing.T) {
	rows := [][]impl.Cell{cells(1, 5, 2, 12), cells(2, 9, 1, 3)}
	widths := []int{5, 4, 8}
	for range 2 {
		for _, got := range [][]int{impl.ColumnWidths(rows, 3), impl.StretchColumns(widths, 17)} {
			equalInts(t, "columns", got, 5, 4, 8)
			clear(got[:cap(got)])
		}
		impl.FitsColumns(rows, widths)
	}
	equalInts(t, "the argument of StretchColumns", widths, 5, 4, 8)
	if !slices.Equal(rows[0], cells(1, 5, 2, 12)) || !slices.Equal(rows[1], cells(2, 9, 1, 3)) {
		t.Errorf("the table became %v", rows)
	}
}
