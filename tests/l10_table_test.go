package tests

import (
	"fmt"
	"math"
	"slices"
	"strings"
	"testing"

	"loop.example/g00819/impl"
)

// badCells are texts that are too long or contain a byte that is not allowed.
var badCells = []string{"\x1f", "\x7f", "a\tb", "\n", "a\x00", strings.Repeat("a", 201), strings.Repeat("\u4e2d", 67)}

// otherIndices are no indices of a table, and some become one when they are cut to fewer bits.
var otherIndices = []int{-1, -2, 8, 9, 60, 256, -256, 1 << 32, 1<<32 + 1, -1 << 32, math.MinInt, math.MinInt + 1, math.MaxInt}

// allColumns are the indices of the columns of the widest table.
var allColumns = []int{0, 1, 2, 3, 4, 5, 6, 7}

// isCellText counts the bytes that are allowed.
func isCellText(s string) bool {
	allowed := 0
	for _, b := range []byte(s) {
		if b > 31 && b != 127 {
			allowed++
		}
	}
	return allowed == len(s) && allowed <= 200
}

// tableCode finds all faults of a table and returns the first one in the document's order.
func tableCode(x impl.Table) int {
	shape, cell := len(x.Head) < 1 || len(x.Head) > 8, false
	for _, row := range x.Rows {
		shape = shape || len(row) != len(x.Head)
	}
	for _, s := range slices.Concat(x.Head, slices.Concat(x.Rows...)) {
		cell = cell || !isCellText(s)
	}
	return max(0, slices.Index([]bool{false, shape, cell, len(x.Rows) > 60}, true))
}

// isColumn reports whether a table is valid and has a column with this index.
func isColumn(x impl.Table, k int) bool {
	return tableCode(x) == 0 && k >= 0 && k < len(x.Head)
}

func columnOf(x impl.Table, k int) []string {
	if !isColumn(x, k) {
		return nil
	}
	var column []string
	for _, row := range x.Rows {
		column = append(column, row[k])
	}
	return column
}

func naturalWidths(x impl.Table) []int {
	if tableCode(x) != 0 {
		return nil
	}
	var widths []int
	for k, s := range x.Head {
		width := widthOfText(s)
		for _, row := range x.Rows {
			width = max(width, widthOfText(row[k]))
		}
		widths = append(widths, width)
	}
	return widths
}

// transposed moves the elements one by one, as long as all rows have one.
func transposed(rows [][]string) [][]string {
	var list [][]string
	for i := 0; len(rows) > 0; i++ {
		var elements []string
		for _, row := range rows {
			if i >= len(row) {
				return list
			}
			elements = append(elements, row[i])
		}
		list = append(list, elements)
	}
	return list
}

// picked returns the elements with these indices.
func picked(row []string, list []int) []string {
	var elements []string
	for _, k := range list {
		elements = append(elements, row[k])
	}
	return elements
}

func selectColumns(x impl.Table, list []int) (impl.Table, bool) {
	if tableCode(x) != 0 || len(list) < 1 || len(list) > 8 || slices.Min(list) < 0 || slices.Max(list) >= len(x.Head) {
		return impl.Table{}, false
	}
	y := impl.Table{Head: picked(x.Head, list)}
	for _, row := range x.Rows {
		y.Rows = append(y.Rows, picked(row, list))
	}
	return y, true
}

// tableText is equal for tables that are equal, where no list differs from an empty one.
func tableText(x impl.Table) string {
	return fmt.Sprintf("%q %q", x.Head, x.Rows)
}

func sameRows(a, b [][]string) bool {
	return fmt.Sprintf("%q", a) == fmt.Sprintf("%q", b)
}

// row returns the texts as a list.
func row(texts ...string) []string {
	return texts
}

// rowsOf returns rows of different elements with these numbers of them.
func rowsOf(lengths ...int) [][]string {
	rows := make([][]string, len(lengths))
	for i, n := range lengths {
		for k := range n {
			rows[i] = append(rows[i], fmt.Sprintf("%d.%d", i, k))
		}
	}
	return rows
}

// tableOf returns a table of this size whose elements are all different.
func tableOf(columns int, rows int) impl.Table {
	lines := rowsOf(slices.Repeat([]int{columns}, rows+1)...)
	return impl.Table{Head: lines[0], Rows: lines[1:]}
}

// changed returns a copy of a table in which Head (for the index -1) or a row is replaced.
func changed(x impl.Table, i int, by []string) impl.Table {
	y := impl.Table{Head: x.Head, Rows: slices.Clone(x.Rows)}
	if i < 0 {
		y.Head = by
	} else {
		y.Rows[i] = by
	}
	return y
}

// withCell returns a copy of a table in which one element of Head (for the index -1) or of a row is replaced.
func withCell(x impl.Table, i int, k int, s string) impl.Table {
	line := x.Head
	if i >= 0 {
		line = x.Rows[i]
	}
	line = slices.Clone(line)
	line[k] = s
	return changed(x, i, line)
}

// faultyTables returns tables with a fault in a line, and with two of them, of this size, which may be a fault itself.
func faultyTables(columns int, rows int) []impl.Table {
	var list []impl.Table
	x := tableOf(columns, rows)
	for _, i := range []int{-1, 0, rows / 2, rows - 1} {
		for _, by := range [][]string{nil, x.Head[1:], append(slices.Clone(x.Head), "a"), append(slices.Clone(x.Head), "\t")} {
			list = append(list, changed(x, i, by), changed(withCell(x, rows-1, 0, "\x7f"), i, by))
		}
		for _, k := range []int{0, columns / 2, columns - 1} {
			for _, s := range badCells {
				list = append(list, withCell(x, i, k, s))
			}
		}
	}
	return list
}

// someTables returns tables of sizes within and beyond what is allowed, with and without other faults.
func someTables() []impl.Table {
	var list []impl.Table
	for columns := range 11 {
		for _, rows := range []int{0, 1, 2, 3, 59, 60, 61, 62} {
			list = append(list, tableOf(columns, rows))
		}
	}
	for _, columns := range []int{1, 2, 7, 8, 9} {
		for _, rows := range []int{1, 2, 60, 61} {
			list = append(list, faultyTables(columns, rows)...)
		}
	}
	return list
}

// validTables returns tables of all numbers of columns, with elements of all widths.
func validTables() []impl.Table {
	texts := []string{"", "a", "\u4e2d\u4e2d", "e\u0301", " b ", "\xff\xfe", "\xe4\xb8", "\u0085", "\U0001f600", strings.Repeat("c", 200)}
	var list []impl.Table
	for columns := 1; columns <= 8; columns++ {
		for _, rows := range []int{0, 1, 2, 3, 59, 60} {
			x := tableOf(columns, rows)
			y := x
			for i := -1; i < rows; i++ {
				for k := range columns {
					y = withCell(y, i, k, texts[(i*i+3*k+rows)%len(texts)])
				}
			}
			list = append(list, x, y)
		}
	}
	return list
}

// checkTable compares the functions of one table with the definitions.
func checkTable(t *testing.T, x impl.Table) {
	t.Helper()
	code := tableCode(x)
	if got, valid := impl.TableCode(x), impl.IsTable(x); got != code || valid != (code == 0) {
		t.Fatalf("TableCode(%.300s) = %d, and IsTable is %t, want %d", tableText(x), got, valid, code)
	}
	for _, k := range append([]int{0, 1, len(x.Head) / 2, len(x.Head) - 1, len(x.Head)}, otherIndices...) {
		if got, want := impl.ColumnOf(x, k), columnOf(x, k); !slices.Equal(got, want) {
			t.Fatalf("ColumnOf(%.300s, %d) = %q, want %q", tableText(x), k, got, want)
		}
	}
	if got, want := impl.NaturalWidths(x), naturalWidths(x); !slices.Equal(got, want) {
		t.Fatalf("NaturalWidths(%.300s) = %d, want %d", tableText(x), got, want)
	}
	for _, list := range [][]int{nil, {0}, {len(x.Head) - 1}, {len(x.Head)}, {0, 0}, {1, 0}, {0, -1}} {
		checkSelected(t, x, list)
	}
}

// checkSelected compares SelectColumns with the definition.
func checkSelected(t *testing.T, x impl.Table, list []int) {
	t.Helper()
	want, wantOk := selectColumns(x, list)
	if y, ok := impl.SelectColumns(x, list); tableText(y) != tableText(want) || ok != wantOk {
		t.Fatalf("SelectColumns(%.300s, %d) = %.300s, %t, want %.300s, %t", tableText(x), list, tableText(y), ok, tableText(want), wantOk)
	}
}

func TestTableConstants(t *testing.T) {
	if impl.MaxColumns != 8 || impl.MaxRows != 60 || impl.MaxCellText != 200 {
		t.Errorf("the limits are %d, %d and %d", impl.MaxColumns, impl.MaxRows, impl.MaxCellText)
	}
	if impl.TbOk != 0 || impl.TbShape != 1 || impl.TbCell != 2 || impl.TbSize != 3 {
		t.Errorf("the codes are %d, %d, %d and %d", impl.TbOk, impl.TbShape, impl.TbCell, impl.TbSize)
	}
}

func TestIsCellText(t *testing.T) {
	for _, x := range []struct {
		s    string
		want bool
	}{
		{"", true},
		{"a", true},
		{" ", true},
		{" iron nut ", true},
		{"a|b,\"c\"\\", true},
		// Bytes are counted, not characters.
		{strings.Repeat("a", 199), true},
		{strings.Repeat("a", 200), true},
		{strings.Repeat("a", 201), false},
		{strings.Repeat("\u00e4", 100), true},
		{strings.Repeat("\u00e4", 100) + "a", false},
		{strings.Repeat("\u4e2d", 66) + "ab", true},
		{strings.Repeat("\u4e2d", 67), false},
		{strings.Repeat("\U0001f600", 50), true},
		{strings.Repeat("\U0001f600", 51), false},
		{strings.Repeat("\xff", 200), true},
		{strings.Repeat("\xff", 201), false},
		{strings.Repeat("a", 100000), false},
		// The bytes around those that are not allowed.
		{"\x1f", false},
		{"\x20", true},
		{"\x7e", true},
		{"\x7f", false},
		{"\x80", true},
		{"\xff", true},
		{"\x00", false},
		{"\t", false},
		{"\n", false},
		{"\f", false},
		{"\r", false},
		{"a\x7f", false},
		{"\x1fa", false},
		{"\u4e2d\n\u4e2d", false},
		// Text that is not valid, and codes beyond ASCII that are controls.
		{"\xff\xfe", true},
		{"\xe4\xb8", true},
		{"\xc0\x80", true},
		{"\xed\xa0\x80", true},
		{"a\xb8b", true},
		{"\xe4\xb8\x1f", false},
		{"\u0080\u0085\u009f", true},
		{"\u0301\u200b\ufeff", true},
		{"\u2028\ufffd", true},
	} {
		if got := impl.IsCellText(x.s); got != x.want {
			t.Errorf("IsCellText(%q) = %t", x.s, got)
		}
	}
}

func TestIsCellTextOfAllBytes(t *testing.T) {
	for b := range 256 {
		c := string([]byte{byte(b)})
		for _, n := range []int{0, 1, 99, 198, 199, 200} {
			for _, s := range []string{c + strings.Repeat("a", n), strings.Repeat("a", n) + c, strings.Repeat("a", n/2) + c + strings.Repeat("\u0301", n/4)} {
				if got := impl.IsCellText(s); got != isCellText(s) {
					t.Fatalf("IsCellText(%q) = %t", s, got)
				}
			}
		}
	}
	for _, s := range textsOver("a \x1f\x7e\x7f\x80\xff", 4) {
		if got := impl.IsCellText(s); got != isCellText(s) {
			t.Fatalf("IsCellText(%q) = %t", s, got)
		}
	}
}

func TestTableCode(t *testing.T) {
	for _, x := range []struct {
		label string
		table impl.Table
		code  int
	}{
		{"the zero value", impl.Table{}, 1},
		{"an empty Head without rows", impl.Table{Head: []string{}, Rows: [][]string{}}, 1},
		{"an empty Head with an empty row", impl.Table{Rows: [][]string{{}}}, 1},
		{"no Head with a row", impl.Table{Rows: [][]string{{"a"}}}, 1},
		{"1 column", tableOf(1, 0), 0},
		{"1 column with a row", tableOf(1, 1), 0},
		{"8 columns", tableOf(8, 0), 0},
		{"8 columns with rows", tableOf(8, 3), 0},
		{"9 columns", tableOf(9, 0), 1},
		{"9 columns with rows", tableOf(9, 3), 1},
		{"an empty element in Head", impl.Table{Head: row("")}, 0},
		{"equal elements in Head", impl.Table{Head: row("a", "a"), Rows: [][]string{{"", ""}}}, 0},
		// One element fewer, and one more, than Head, in the first, another and the last row.
		{"a row with one element fewer", impl.Table{Head: row("a", "b"), Rows: [][]string{{"c"}}}, 1},
		{"a row with one element more", impl.Table{Head: row("a", "b"), Rows: [][]string{{"c", "d", "e"}}}, 1},
		{"a first row with one element fewer", impl.Table{Head: row("a", "b"), Rows: [][]string{{"c"}, {"d", "e"}, {"f", "g"}}}, 1},
		{"another row with one element more", impl.Table{Head: row("a", "b"), Rows: [][]string{{"c", "d"}, {"e", "f", "g"}, {"h", "i"}}}, 1},
		{"a last row with one element fewer", impl.Table{Head: row("a", "b"), Rows: [][]string{{"c", "d"}, {"e", "f"}, {"g"}}}, 1},
		{"a row without elements", impl.Table{Head: row("a"), Rows: [][]string{{"c"}, nil}}, 1},
		{"a row with as many elements as there are rows", impl.Table{Head: row("a"), Rows: [][]string{{"c", "d"}, {"e", "f"}}}, 1},
		// An element that is not valid.
		{"a tab in Head", impl.Table{Head: row("a\t")}, 2},
		{"a long element in Head", impl.Table{Head: row("a", strings.Repeat("b", 201)), Rows: [][]string{{"c", "d"}}}, 2},
		{"an element of 200 bytes", impl.Table{Head: row("a", strings.Repeat("b", 200)), Rows: [][]string{{strings.Repeat("c", 200), "d"}}}, 0},
		{"a delete byte in a row", impl.Table{Head: row("a", "b"), Rows: [][]string{{"c", "d"}, {"e", "\x7f"}}}, 2},
		{"a newline in a row", impl.Table{Head: row("a", "b"), Rows: [][]string{{"\n", "d"}, {"e", "f"}}}, 2},
		{"text that is not valid", impl.Table{Head: row("\xff"), Rows: [][]string{{"\xe4\xb8"}}}, 0},
		// The number of rows.
		{"59 rows", tableOf(2, 59), 0},
		{"60 rows", tableOf(2, 60), 0},
		{"61 rows", tableOf(2, 61), 3},
		{"60 rows of 8 columns", tableOf(8, 60), 0},
		{"61 rows of 1 column", tableOf(1, 61), 3},
		{"316 rows", tableOf(1, 316), 3},
		// Several faults: the first one in the order of the codes counts.
		{"9 columns and a tab in Head", withCell(tableOf(9, 1), -1, 8, "\t"), 1},
		{"a tab in Head and a row that is too short", impl.Table{Head: row("\t", "b"), Rows: [][]string{{"c"}}}, 1},
		{"a tab in a row and a later one that is too long", impl.Table{Head: row("a"), Rows: [][]string{{"\t"}, {"c", "d"}}}, 1},
		{"a tab in the element that is too much", impl.Table{Head: row("a"), Rows: [][]string{{"b", "\t"}}}, 1},
		{"61 rows and a tab in Head", withCell(tableOf(2, 61), -1, 0, "\t"), 2},
		{"61 rows and a tab in the last one", withCell(tableOf(2, 61), 60, 1, "\t"), 2},
		{"61 rows of which the last one is too short", changed(tableOf(2, 61), 60, row("a")), 1},
		{"61 rows of which the last one is too long", changed(tableOf(2, 61), 60, row("a", "b", "c")), 1},
		{"61 rows and no Head", changed(tableOf(2, 61), -1, nil), 1},
		{"61 rows and 9 columns", tableOf(9, 61), 1},
		{"61 empty rows and no Head", tableOf(0, 61), 1},
		{"61 rows, a tab, and a row that is too long", changed(withCell(tableOf(2, 61), 0, 0, "\t"), 60, row("a", "b", "c")), 1},
	} {
		if got := impl.TableCode(x.table); got != x.code {
			t.Errorf("TableCode of a table with %s = %d, want %d", x.label, got, x.code)
		}
		if got := impl.IsTable(x.table); got != (x.code == 0) {
			t.Errorf("IsTable of a table with %s = %t", x.label, got)
		}
	}
}

func TestTablesByDefinition(t *testing.T) {
	for _, x := range slices.Concat(someTables(), validTables()) {
		checkTable(t, x)
	}
}

func TestColumnOf(t *testing.T) {
	x := impl.Table{Head: row("name", "value", "unit"), Rows: [][]string{{"nut", "12.5", ""}, {"bolt", "-7", "\u4e2d"}, {"bolt", "", "\xff"}}}
	for _, y := range []struct {
		table impl.Table
		k     int
		want  []string
	}{
		{x, -1, nil},
		{x, 0, row("nut", "bolt", "bolt")},
		{x, 1, row("12.5", "-7", "")},
		{x, 2, row("", "\u4e2d", "\xff")},
		{x, 3, nil},
		{x, math.MinInt, nil},
		{x, math.MaxInt, nil},
		{x, 1 << 32, nil},
		// Without rows.
		{impl.Table{Head: row("a", "b")}, -1, nil},
		{impl.Table{Head: row("a", "b")}, 0, nil},
		{impl.Table{Head: row("a", "b"), Rows: [][]string{}}, 1, nil},
		{impl.Table{Head: row("a", "b")}, 2, nil},
		// A single row or column.
		{impl.Table{Head: row("a", "b"), Rows: [][]string{{"c", "d"}}}, 1, row("d")},
		{impl.Table{Head: row("a"), Rows: [][]string{{"b"}, {"c"}}}, 0, row("b", "c")},
		{impl.Table{Head: row("a"), Rows: [][]string{{"b"}, {"c"}}}, 1, nil},
		{tableOf(8, 2), 7, row("1.7", "2.7")},
		{tableOf(8, 2), 8, nil},
		// Tables that are not valid, also if they have such a column.
		{impl.Table{}, 0, nil},
		{impl.Table{Rows: [][]string{{"a"}}}, 0, nil},
		{impl.Table{Head: row("a", "b"), Rows: [][]string{{"c", "d"}, {"e"}}}, 0, nil},
		{impl.Table{Head: row("a"), Rows: [][]string{{"c", "d"}}}, 0, nil},
		{impl.Table{Head: row("a", "\t"), Rows: [][]string{{"c", "d"}}}, 0, nil},
		{impl.Table{Head: row("a", "b"), Rows: [][]string{{"c", "d\n"}}}, 0, nil},
		{tableOf(9, 2), 0, nil},
		{tableOf(2, 61), 1, nil},
	} {
		if got := impl.ColumnOf(y.table, y.k); !slices.Equal(got, y.want) {
			t.Errorf("ColumnOf(%s, %d) = %q, want %q", tableText(y.table), y.k, got, y.want)
		}
	}
}

func TestNaturalWidths(t *testing.T) {
	for _, x := range []struct {
		head []string
		rows [][]string
		want []int
	}{
		{row("name", "value"), [][]string{{"iron nut", "12.5"}, {"bolt", "-7"}}, []int{8, 5}},
		// Head wider than all rows, and the other way around.
		{row("abc"), [][]string{{"a"}, {"ab"}}, []int{3}},
		{row("a"), [][]string{{"abc"}, {"ab"}}, []int{3}},
		{row("a"), [][]string{{"ab"}, {"abc"}}, []int{3}},
		{row("abc", "a"), [][]string{{"a", "ab"}, {"ab", "a"}}, []int{3, 2}},
		{row("abc"), [][]string{{"abc"}}, []int{3}},
		// Without rows, and with empty elements only.
		{row("abc", ""), nil, []int{3, 0}},
		{row("", ""), [][]string{{"", ""}}, []int{0, 0}},
		{row("", "a"), [][]string{{"b", ""}}, []int{1, 1}},
		// Wide, combining and invalid characters, and controls beyond ASCII.
		{row("\u4e2d\u4e2d"), [][]string{{"abc"}}, []int{4}},
		{row("abc"), [][]string{{"\u4e2d\u4e2d"}}, []int{4}},
		{row("abcde"), [][]string{{"\u4e2d\u4e2d"}}, []int{5}},
		{row("\U0001f600a"), nil, []int{3}},
		{row("e\u0301\u0302"), [][]string{{"ab"}}, []int{2}},
		{row("\u0301"), [][]string{{"\u200b\ufeff"}}, []int{0}},
		{row("\xff\xfe\xfd"), [][]string{{"ab"}}, []int{3}},
		{row("a"), [][]string{{"\xe4\xb8"}, {"\xe4\xb8\xad"}}, []int{2}},
		{row("a"), [][]string{{"\u0080\u009f"}}, []int{1}},
		{row("<b>a</b>"), [][]string{{"&lt;"}}, []int{8}},
		// The widest elements.
		{row(strings.Repeat("a", 200)), [][]string{{strings.Repeat("\u4e2d", 66)}}, []int{200}},
		{row("a", "b"), [][]string{{strings.Repeat("\xff", 200), strings.Repeat("\u4e2d", 66)}}, []int{200, 132}},
		{row("0", "1", "2", "3", "4", "5", "6", "77"), [][]string{{"", "", "", "", "", "555", "", ""}}, []int{1, 1, 1, 1, 1, 3, 1, 2}},
		// Tables that are not valid.
		{nil, nil, nil},
		{nil, [][]string{{"a"}}, nil},
		{row("a", "b"), [][]string{{"c"}}, nil},
		{row("a"), [][]string{{"b", "c"}}, nil},
		{row("a\t"), nil, nil},
		{row("a"), [][]string{{"\x7f"}}, nil},
		{row(strings.Repeat("a", 201)), nil, nil},
		{tableOf(9, 1).Head, tableOf(9, 1).Rows, nil},
		{tableOf(1, 61).Head, tableOf(1, 61).Rows, nil},
	} {
		if got := impl.NaturalWidths(impl.Table{Head: x.head, Rows: x.rows}); !slices.Equal(got, x.want) {
			t.Errorf("NaturalWidths(%q, %q) = %d, want %d", x.head, x.rows, got, x.want)
		}
	}
	for _, s := range textsOfPieces([]string{"a", "\u0301", "\u4e2d", "\U0001f600", "\xff", "\xe4\xb8", "\xad"}, 3) {
		for _, other := range []string{"", "ab", "\u4e2d\u4e2da"} {
			want := []int{max(widthOfText(s), widthOfText(other))}
			for _, x := range []impl.Table{{Head: row(s), Rows: [][]string{{other}}}, {Head: row(other), Rows: [][]string{{""}, {s}}}} {
				if got := impl.NaturalWidths(x); !slices.Equal(got, want) {
					t.Fatalf("NaturalWidths(%s) = %d, want %d", tableText(x), got, want)
				}
			}
		}
	}
}

func TestTransposeRows(t *testing.T) {
	for _, x := range []struct{ rows, want [][]string }{
		{nil, nil},
		{[][]string{}, nil},
		{[][]string{{"spare"}}[:0], nil},
		{[][]string{nil}, nil},
		{[][]string{{}, {}}, nil},
		// One row, and one column.
		{[][]string{{"a"}}, [][]string{{"a"}}},
		{[][]string{{"a", "b", "c"}}, [][]string{{"a"}, {"b"}, {"c"}}},
		{[][]string{{"a"}, {"b"}, {"c"}}, [][]string{{"a", "b", "c"}}},
		{[][]string{{"a", "b", "c"}, {"d", "e", "f"}}, [][]string{{"a", "d"}, {"b", "e"}, {"c", "f"}}},
		// Rows of different lengths: the least one counts, wherever it is.
		{[][]string{{"a"}, {"b", "c"}}, [][]string{{"a", "b"}}},
		{[][]string{{"a", "b"}, {"c"}}, [][]string{{"a", "c"}}},
		{[][]string{{"a", "b", "c"}, {"d", "e"}, {"f", "g", "h", "i"}}, [][]string{{"a", "d", "f"}, {"b", "e", "g"}}},
		// An empty row among others.
		{[][]string{{}, {"a"}}, nil},
		{[][]string{{"a", "b"}, nil, {"c", "d"}}, nil},
		{[][]string{{"a"}, {}}, nil},
		// The elements and the rows need not be those of a table.
		{[][]string{{"\x00", "\n"}, {"", strings.Repeat("a", 300)}}, [][]string{{"\x00", ""}, {"\n", strings.Repeat("a", 300)}}},
		{[][]string{{"\xff", "\u4e2d"}}, [][]string{{"\xff"}, {"\u4e2d"}}},
	} {
		if got := impl.TransposeRows(x.rows); !sameRows(got, x.want) {
			t.Errorf("TransposeRows(%q) = %q, want %q", x.rows, got, x.want)
		}
	}
}

func TestTransposeRowsByDefinition(t *testing.T) {
	eachList([]int{0, 1, 2, 3, 9}, 5, func(lengths []int) {
		rows := rowsOf(lengths...)
		if got, want := impl.TransposeRows(rows), transposed(rows); !sameRows(got, want) {
			t.Fatalf("TransposeRows(%q) = %q, want %q", rows, got, want)
		}
	})
}

func TestSelectColumns(t *testing.T) {
	x := impl.Table{Head: row("a", "b", "c"), Rows: [][]string{{"d", "e", "f"}, {"g", "", "\u4e2d"}}}
	for _, y := range []struct {
		table impl.Table
		list  []int
		want  impl.Table
		ok    bool
	}{
		{x, []int{0}, impl.Table{Head: row("a"), Rows: [][]string{{"d"}, {"g"}}}, true},
		{x, []int{2}, impl.Table{Head: row("c"), Rows: [][]string{{"f"}, {"\u4e2d"}}}, true},
		{x, []int{0, 1, 2}, x, true},
		{x, []int{2, 0}, impl.Table{Head: row("c", "a"), Rows: [][]string{{"f", "d"}, {"\u4e2d", "g"}}}, true},
		// No index.
		{x, nil, impl.Table{}, false},
		{x, []int{}, impl.Table{}, false},
		{tableOf(1, 0), nil, impl.Table{}, false},
		// Repetitions.
		{x, []int{1, 1}, impl.Table{Head: row("b", "b"), Rows: [][]string{{"e", "e"}, {"", ""}}}, true},
		{x, []int{1, 0, 1}, impl.Table{Head: row("b", "a", "b"), Rows: [][]string{{"e", "d", "e"}, {"", "g", ""}}}, true},
		{tableOf(1, 1), []int{0, 0, 0, 0, 0, 0, 0, 0}, impl.Table{Head: slices.Repeat(row("0.0"), 8), Rows: [][]string{slices.Repeat(row("1.0"), 8)}}, true},
		// More than MaxColumns indices.
		{tableOf(1, 1), []int{0, 0, 0, 0, 0, 0, 0, 0, 0}, impl.Table{}, false},
		{x, []int{0, 1, 2, 0, 1, 2, 0, 1, 2}, impl.Table{}, false},
		{tableOf(8, 1), []int{0, 1, 2, 3, 4, 5, 6, 7, 0}, impl.Table{}, false},
		{tableOf(8, 1), []int{7, 6, 5, 4, 3, 2, 1, 0}, impl.Table{Head: row("0.7", "0.6", "0.5", "0.4", "0.3", "0.2", "0.1", "0.0"), Rows: [][]string{{"1.7", "1.6", "1.5", "1.4", "1.3", "1.2", "1.1", "1.0"}}}, true},
		// An index that is negative or too great, at every place.
		{x, []int{-1}, impl.Table{}, false},
		{x, []int{3}, impl.Table{}, false},
		{x, []int{-1, 0, 1}, impl.Table{}, false},
		{x, []int{0, 3, 1}, impl.Table{}, false},
		{x, []int{0, 1, -1}, impl.Table{}, false},
		{x, []int{math.MinInt}, impl.Table{}, false},
		{x, []int{0, math.MaxInt}, impl.Table{}, false},
		{x, []int{1 << 32}, impl.Table{}, false},
		{x, []int{0, 1, 2, 0, 1, 2, 0, 1, 9}, impl.Table{}, false},
		// Without rows.
		{impl.Table{Head: row("a", "b")}, []int{1, 0}, impl.Table{Head: row("b", "a")}, true},
		{impl.Table{Head: row("a", "b"), Rows: [][]string{}}, []int{1}, impl.Table{Head: row("b")}, true},
		{impl.Table{Head: row("a", "b")}, []int{2}, impl.Table{}, false},
		// Tables that are not valid, also where the selected columns would be.
		{impl.Table{}, []int{0}, impl.Table{}, false},
		{impl.Table{}, nil, impl.Table{}, false},
		{impl.Table{Head: row("a", "b"), Rows: [][]string{{"c"}}}, []int{0}, impl.Table{}, false},
		{impl.Table{Head: row("a"), Rows: [][]string{{"b", "c"}}}, []int{0}, impl.Table{}, false},
		{impl.Table{Head: row("a", "\t")}, []int{0}, impl.Table{}, false},
		{impl.Table{Head: row("a", "b"), Rows: [][]string{{"c", "\x7f"}}}, []int{0}, impl.Table{}, false},
		{tableOf(9, 1), []int{0}, impl.Table{}, false},
		{tableOf(2, 61), []int{0}, impl.Table{}, false},
	} {
		if got, ok := impl.SelectColumns(y.table, y.list); tableText(got) != tableText(y.want) || ok != y.ok {
			t.Errorf("SelectColumns(%s, %d) = %s, %t, want %s, %t", tableText(y.table), y.list, tableText(got), ok, tableText(y.want), y.ok)
		}
	}
}

func TestSelectColumnsByDefinition(t *testing.T) {
	for columns := 1; columns <= 3; columns++ {
		for rows := range 3 {
			x := tableOf(columns, rows)
			eachList([]int{-1, 0, 1, 2, 3}, 4, func(list []int) { checkSelected(t, x, list) })
		}
	}
	for _, x := range validTables() {
		for n := range 12 {
			list := make([]int, n)
			for i := range list {
				list[i] = (i*i + n) % len(x.Head)
			}
			checkSelected(t, x, list)
			for _, k := range append([]int{len(x.Head)}, otherIndices...) {
				if n > 0 {
					checkSelected(t, x, append(slices.Clone(list[1:]), k))
				}
			}
		}
	}
}

// P5: selecting all columns changes nothing.
func TestAllColumnsSelected(t *testing.T) {
	for _, x := range validTables() {
		if y, ok := impl.SelectColumns(x, allColumns[:len(x.Head)]); !ok || !impl.SameTable(x, y) || tableText(x) != tableText(y) {
			t.Fatalf("selecting all columns of %s makes it %s", tableText(x), tableText(y))
		}
	}
}

// P5: the selected columns are those of the table, and selecting them in another order, and back, loses nothing.
func TestColumnsAreRecovered(t *testing.T) {
	for _, x := range validTables() {
		n := len(x.Head)
		// The factor has no divisor in common with n, so that each column is selected once.
		for shift := range n {
			list, back := make([]int, n), make([]int, n)
			for i := range list {
				list[i] = (59*i + shift) % n
				back[list[i]] = i
			}
			y, ok := impl.SelectColumns(x, list)
			for i, k := range list {
				if !ok || y.Head[i] != x.Head[k] || !slices.Equal(impl.ColumnOf(y, i), impl.ColumnOf(x, k)) {
					t.Fatalf("SelectColumns(%s, %d) = %s", tableText(x), list, tableText(y))
				}
			}
			if z, ok := impl.SelectColumns(y, back); !ok || !impl.SameTable(x, z) {
				t.Fatalf("SelectColumns(%s, %d) = %s, want %s", tableText(y), back, tableText(z), tableText(x))
			}
		}
	}
}

// P5: transposing rows of one length twice restores them.
func TestRowsAreRecovered(t *testing.T) {
	check := func(rows [][]string, columns int) {
		t.Helper()
		once := impl.TransposeRows(rows)
		if twice := impl.TransposeRows(once); len(once) != columns || !sameRows(twice, rows) {
			t.Fatalf("transposing %.300q makes %.300q and %.300q of it", rows, once, twice)
		}
	}
	for length := 1; length <= 10; length++ {
		for n := 1; n <= 10; n++ {
			check(rowsOf(slices.Repeat([]int{length}, n)...), length)
		}
	}
	check(rowsOf(5000), 5000)
	check(rowsOf(slices.Repeat([]int{1}, 5000)...), 1)
	for _, x := range validTables() {
		columns := impl.TransposeRows(x.Rows)
		for k, column := range columns {
			if !slices.Equal(column, impl.ColumnOf(x, k)) {
				t.Fatalf("the column %d of %s is %q if it is transposed", k, tableText(x), column)
			}
		}
		if twice := impl.TransposeRows(columns); !sameRows(twice, x.Rows) {
			t.Fatalf("transposing the rows of %s twice makes them %q", tableText(x), twice)
		}
	}
}

func TestSameTable(t *testing.T) {
	tables := []impl.Table{
		{},
		{Head: row("")},
		{Head: row("a")},
		{Head: row("a", "b")},
		{Head: row("ab")},
		{Head: row("a", "b", "")},
		{Rows: [][]string{nil}},
		{Rows: [][]string{nil, nil}},
		{Rows: [][]string{{""}}},
		{Rows: [][]string{{"a", "b"}}},
		{Rows: [][]string{{"a"}, {"b"}}},
		{Head: row("a", "b"), Rows: [][]string{nil}},
		{Head: row("a", "b"), Rows: [][]string{{"c", "d"}}},
		{Head: row("a"), Rows: [][]string{{"b", "c", "d"}}},
		{Head: row("a", "b"), Rows: [][]string{{"c"}, {"d"}}},
		// They differ in one element of Head.
		{Head: row("a", "b"), Rows: [][]string{{"c", "d"}, {"e", "f"}}},
		{Head: row("x", "b"), Rows: [][]string{{"c", "d"}, {"e", "f"}}},
		{Head: row("a", "x"), Rows: [][]string{{"c", "d"}, {"e", "f"}}},
		{Head: row("a", "B"), Rows: [][]string{{"c", "d"}, {"e", "f"}}},
		{Head: row("a", "b "), Rows: [][]string{{"c", "d"}, {"e", "f"}}},
		{Head: row("b", "a"), Rows: [][]string{{"c", "d"}, {"e", "f"}}},
		// In one element of a row.
		{Head: row("a", "b"), Rows: [][]string{{"x", "d"}, {"e", "f"}}},
		{Head: row("a", "b"), Rows: [][]string{{"c", "x"}, {"e", "f"}}},
		{Head: row("a", "b"), Rows: [][]string{{"c", "d"}, {"x", "f"}}},
		{Head: row("a", "b"), Rows: [][]string{{"c", "d"}, {"e", "x"}}},
		{Head: row("a", "b"), Rows: [][]string{{"c", "d"}, {"e", ""}}},
		{Head: row("a", "b"), Rows: [][]string{{"c", "d"}, {"e", "\xff"}}},
		{Head: row("a", "b"), Rows: [][]string{{"c", "d"}, {"e", "\xfe"}}},
		{Head: row("a", "b"), Rows: [][]string{{"c", "d"}, {"e", "\ufffd"}}},
		// In the number or the order of the rows.
		{Head: row("a", "b"), Rows: [][]string{{"c", "d"}, {"e", "f"}, {"g", "h"}}},
		{Head: row("a", "b"), Rows: [][]string{{"c", "d"}, {"e", "f"}, {"e", "f"}}},
		{Head: row("a", "b"), Rows: [][]string{{"c", "d"}, {"e", "f"}, nil}},
		{Head: row("a", "b"), Rows: [][]string{{"e", "f"}}},
		{Head: row("a", "b"), Rows: [][]string{{"e", "f"}, {"c", "d"}}},
		// In the length of one row, or of Head.
		{Head: row("a", "b"), Rows: [][]string{{"c", "d"}, {"e"}}},
		{Head: row("a", "b"), Rows: [][]string{{"c"}, {"e", "f"}}},
		{Head: row("a", "b"), Rows: [][]string{{"c", "d"}, nil}},
		{Head: row("a", "b"), Rows: [][]string{{"c", "d"}, {"e", "f", ""}}},
		{Head: row("a", "b"), Rows: [][]string{{"c", "d", "e"}, {"f"}}},
		{Head: row("a"), Rows: [][]string{{"c", "d"}, {"e", "f"}}},
		{Head: row("a", "b", "c"), Rows: [][]string{{"c", "d"}, {"e", "f"}}},
		// Tables that are too large or have elements that are not valid are compared, too.
		tableOf(9, 62),
		withCell(tableOf(9, 62), 61, 8, "61.8\n"),
		withCell(tableOf(9, 62), 61, 8, strings.Repeat("a", 300)),
		withCell(tableOf(9, 62), 61, 8, strings.Repeat("a", 299)+"b"),
	}
	for i, a := range tables {
		for k, b := range tables {
			if got := impl.SameTable(a, inOtherMemory(b)); got != (i == k) {
				t.Errorf("SameTable(%s, %s) = %t", tableText(a), tableText(b), got)
			}
		}
	}
}

// inOtherMemory returns an equal table that shares no memory with it, and has empty lists in place of none.
func inOtherMemory(x impl.Table) impl.Table {
	copied := func(l []string) []string {
		texts := make([]string, 0, len(l)+3)
		for _, s := range l {
			texts = append(texts, strings.Clone(s))
		}
		return texts
	}
	y := impl.Table{Head: copied(x.Head), Rows: [][]string{}}
	for _, l := range x.Rows {
		y.Rows = append(y.Rows, copied(l))
	}
	return y
}

// A list that is nil and one that is empty are the same in every place.
func TestTablesWithEmptyLists(t *testing.T) {
	for i, group := range [][]impl.Table{
		{{}, {Head: []string{}}, {Rows: [][]string{}}, {Head: []string{}, Rows: [][]string{}}},
		{{Head: row("a")}, {Head: row("a"), Rows: [][]string{}}},
		{{Rows: [][]string{nil}}, {Head: []string{}, Rows: [][]string{{}}}},
		{{Head: row("a"), Rows: [][]string{{}, nil}}, {Head: row("a"), Rows: [][]string{nil, {}}}},
	} {
		for _, a := range group {
			for _, b := range group {
				if !impl.SameTable(a, b) || impl.TableCode(a) != impl.TableCode(b) {
					t.Errorf("in group %d, %#v and %#v are not the same", i, a, b)
				}
			}
		}
	}
}

// withSpare returns a copy of a list with two more elements in its spare capacity.
func withSpare(l []string) []string {
	return append(slices.Clone(l), "spare", "also spare")[:len(l)]
}

// roomyRows returns a copy of rows with spare capacity everywhere, where the last two rows are in the same memory.
func roomyRows(rows [][]string) [][]string {
	var roomy [][]string
	for _, l := range rows {
		roomy = append(roomy, withSpare(l))
	}
	last := roomy[len(roomy)-1]
	return append(roomy, last, row("spare"), row("also spare"))[:len(roomy)+1]
}

// wholeRows describes rows with all of their spare capacity.
func wholeRows(rows [][]string) string {
	whole := slices.Clone(rows[:cap(rows)])
	for i, l := range whole {
		whole[i] = l[:cap(l)]
	}
	return fmt.Sprintf("%q", whole)
}

// areSeparate writes a different text to each element of the lists, also of their spare capacity, and reports whether all of them are there afterwards.
func areSeparate(lists ...[]string) bool {
	for i, l := range lists {
		for k := range cap(l) {
			l[:cap(l)][k] = fmt.Sprint("changed ", i, k)
		}
	}
	for i, l := range lists {
		for k, s := range l[:cap(l)] {
			if s != fmt.Sprint("changed ", i, k) {
				return false
			}
		}
	}
	return true
}

// Chapter 1: results share no memory with the arguments or with each other, and arguments do not change, nor what is behind them.
func TestTableResultsAreNew(t *testing.T) {
	for _, size := range [][2]int{{1, 1}, {1, 3}, {2, 1}, {3, 2}, {8, 59}} {
		first := tableOf(size[0], size[1])
		x := impl.Table{Head: withSpare(first.Head), Rows: roomyRows(first.Rows)}
		head, rows := fmt.Sprintf("%q", x.Head[:cap(x.Head)]), wholeRows(x.Rows)
		unchanged := func(label string) {
			t.Helper()
			if fmt.Sprintf("%q", x.Head[:cap(x.Head)]) != head || wholeRows(x.Rows) != rows {
				t.Fatalf("%s changes a table to %q and %s", label, x.Head[:cap(x.Head)], wholeRows(x.Rows))
			}
		}
		checkTable(t, x)
		unchanged("calling the functions")
		if column := impl.ColumnOf(x, 0); !areSeparate(column, impl.ColumnOf(x, 0)) {
			t.Errorf("the columns of %s share memory", tableText(x))
		}
		unchanged("changing a column")
		for _, some := range [][][]string{x.Rows, x.Rows[:1]} {
			columns := impl.TransposeRows(some)
			again := impl.TransposeRows(some)
			clear(again[:cap(again)])
			if !sameRows(columns, transposed(some)) || !areSeparate(slices.Concat(columns, impl.TransposeRows(some))...) {
				t.Errorf("the transposed rows of %q share memory: %q", some, columns)
			}
			unchanged("changing transposed rows")
		}
		for _, list := range [][]int{{0}, {0, 0}, {size[0] - 1, 0, size[0] - 1}, allColumns[:size[0]]} {
			indices := append(slices.Clone(list), 77, 78)
			y, _ := impl.SelectColumns(x, indices[:len(list)])
			again, _ := impl.SelectColumns(x, indices[:len(list)])
			if want := append(slices.Clone(list), 77, 78); !slices.Equal(indices, want) {
				t.Errorf("the indices are %d afterwards, want %d", indices, want)
			}
			clear(again.Rows[:cap(again.Rows)])
			if !sameRows(y.Rows, selectedRows(x, list)) || !areSeparate(append(y.Rows, y.Head, again.Head)...) {
				t.Errorf("with the columns %d, the rows of the selected table share memory: %s", list, tableText(y))
			}
			unchanged("changing a selected table")
		}
		widths := impl.NaturalWidths(x)
		want := slices.Clone(widths)
		clear(widths[:cap(widths)])
		if got := impl.NaturalWidths(x); !slices.Equal(got, want) {
			t.Errorf("NaturalWidths(%s) = %d after a result was changed, want %d", tableText(x), got, want)
		}
	}
}

func selectedRows(x impl.Table, list []int) [][]string {
	y, _ := selectColumns(x, list)
	return y.Rows
}

func TestLongTables(t *testing.T) {
	many := slices.Repeat([][]string{{"a"}}, 200000)
	if code := impl.TableCode(impl.Table{Head: row("a"), Rows: many}); code != 3 {
		t.Errorf("TableCode of many rows = %d", code)
	}
	if code := impl.TableCode(changed(impl.Table{Head: row("a"), Rows: many}, 199999, nil)); code != 1 {
		t.Errorf("TableCode of many rows of which the last one is empty = %d", code)
	}
	if code := impl.TableCode(changed(impl.Table{Head: row("a"), Rows: many}, 199999, row("\t"))); code != 2 {
		t.Errorf("TableCode of many rows of which the last one has a tab = %d", code)
	}
	if code := impl.TableCode(impl.Table{Head: slices.Repeat(row("a"), 200000)}); code != 1 {
		t.Errorf("TableCode of many columns = %d", code)
	}
	if impl.IsCellText(strings.Repeat("a", 1<<24)) {
		t.Error("IsCellText of a long text")
	}
	// All these columns would not fit into memory.
	if y, ok := impl.SelectColumns(tableOf(8, 60), make([]int, 1<<24)); ok || tableText(y) != tableText(impl.Table{}) {
		t.Errorf("SelectColumns with many indices = %.300s, %t", tableText(y), ok)
	}
	for _, rows := range [][][]string{many, rowsOf(100000), rowsOf(100000, 3, 100000), rowsOf(slices.Repeat([]int{300}, 301)...)} {
		if got, want := impl.TransposeRows(rows), transposed(rows); !slices.EqualFunc(got, want, slices.Equal[[]string]) {
			t.Errorf("TransposeRows of %d rows = %d rows, want %d", len(rows), len(got), len(want))
		}
	}
}
