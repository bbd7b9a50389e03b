package tests

import (
	"fmt"
	"math"
	"math/bits"
	"regexp"
	"slices"
	"strings"
	"testing"
	"unsafe"

	"loop.example/g01921/impl"
)

// Promise 2, as far as tables go: they can be parsed from their string format, and no other strings are accepted.

type table = impl.Table

// rowsOf returns one row for each word, with the digits of the word.
func rowsOf(words string) [][]int {
	var rows [][]int
	for _, word := range strings.Fields(words) {
		row := []int{}
		for _, digit := range word {
			row = append(row, int(digit-'0'))
		}
		rows = append(rows, row)
	}
	return rows
}

func tableOf(name string, arity int, words string) table {
	return table{Name: name, Arity: arity, Rows: rowsOf(words)}
}

// oneColumnTable returns the table of arity 1 with the values whose bits are set.
func oneColumnTable(set int) table {
	t := table{Name: "a", Arity: 1}
	for value := range 10 {
		if set>>value&1 == 1 {
			t.Rows = append(t.Rows, []int{value})
		}
	}
	return t
}

func sameRows(a [][]int, b [][]int) bool {
	return slices.EqualFunc(a, b, slices.Equal[[]int])
}

func sameTable(a table, b table) bool {
	return a.Name == b.Name && a.Arity == b.Arity && sameRows(a.Rows, b.Rows)
}

// cloneTable returns a table that shares no memory with the argument.
func cloneTable(t table) table {
	rows := make([][]int, 0, len(t.Rows))
	for _, row := range t.Rows {
		rows = append(rows, append([]int{}, row...))
	}
	return table{Name: strings.Clone(t.Name), Arity: t.Arity, Rows: rows}
}

const eightRows = "0 1 2 3 4 5 6 7"
const eightPairs = "00 01 10 11 55 90 98 99"
const eightTriples = "000 001 010 100 123 555 990 999"

// validTables returns all tables of arity 1 with this name, and tables of the other arities up to the limits.
func validTables() []table {
	tables := []table{
		tableOf("a", 1, ""), tableOf("z", 2, ""), tableOf("m", 3, ""),
		tableOf("r", 2, "01 10"), tableOf("r", 2, "00"), tableOf("r", 2, "99"), tableOf("r", 2, eightPairs),
		tableOf("q", 3, "012"), tableOf("q", 3, "000 999"), tableOf("z", 3, eightTriples),
		{Name: "b", Arity: 2, Rows: [][]int{}},
	}
	for set := range 1 << 10 {
		if bits.OnesCount(uint(set)) <= 8 {
			tables = append(tables, oneColumnTable(set))
		}
	}
	return tables
}

// badNames returns strings that are not one letter from a to z.
func badNames() []string {
	names := []string{"", "rs", "rr", "r ", " r", "é", "ａ", "r\x00", "\x00r", strings.Repeat("r", 300)}
	for value := range 256 {
		if value < 'a' || value > 'z' {
			names = append(names, string([]byte{byte(value)}))
		}
	}
	return names
}

// badValues returns numbers outside 0 to 9, among them some whose low bits are inside.
func badValues() []int {
	return []int{-1, -2, -9, -48, 10, 11, 16, 48, 57, 256, 257, -256, 1 << 32, 1<<32 + 1, -1 << 32, math.MaxInt, math.MinInt, math.MinInt + 1}
}

// badArities returns numbers outside 1 to 3.
func badArities() []int {
	return []int{0, -1, -3, 4, 5, 10, 256 + 2, 1<<32 + 2, math.MaxInt, math.MinInt, math.MinInt + 2}
}

// badRows returns rows that do not have two values from 0 to 9.
func badRows() [][]int {
	rows := [][]int{nil, {}, {0}, {7}, {0, 1, 2}, {0, 0, 0}, {0, 1, 0, 1}, make([]int, 100)}
	for _, value := range badValues() {
		rows = append(rows, []int{value, 1}, []int{1, value}, []int{value}, []int{value, value})
	}
	return rows
}

// invalidTables returns tables that break one condition. Many contain the row 0 1.
func invalidTables() []table {
	tables := []table{
		{},
		tableOf("r", 2, "10 01"), tableOf("r", 2, "01 01"), tableOf("r", 2, "00 01 01"), tableOf("r", 2, "01 10 02"),
		tableOf("r", 2, "20 01"), tableOf("r", 2, "01 2"), tableOf("r", 2, "01 1"), tableOf("r", 2, "01 011"),
		tableOf("r", 1, "0 1 2 3 4 5 6 7 8"), tableOf("r", 1, "0 1 2 3 4 5 6 7 8 9"), tableOf("r", 1, "1 0"), tableOf("r", 1, "3 3"),
		tableOf("r", 2, "00 01 02 03 04 05 06 07 08"), tableOf("r", 3, "000 001 010 011 100 101 110 111 999"),
		tableOf("r", 2, eightPairs+" 99"), tableOf("r", 2, "00 "+eightPairs), tableOf("r", 3, "010 001"),
		{Name: "r", Arity: 2, Rows: [][]int{nil, {0, 1}}}, {Name: "r", Arity: 1, Rows: [][]int{{}}},
	}
	for _, name := range badNames() {
		tables = append(tables, tableOf(name, 2, "01 10"), tableOf(name, 2, ""))
	}
	for _, arity := range badArities() {
		tables = append(tables, tableOf("r", arity, "01 10"), tableOf("r", arity, ""))
	}
	for _, arity := range []int{1, 3} {
		tables = append(tables, tableOf("r", arity, "01 10"), tableOf("r", arity, "01"))
	}
	// A row of as many values as the arity states, which is out of range.
	tables = append(tables, table{Name: "r", Rows: [][]int{{}}}, tableOf("r", 4, "0123"))
	for _, row := range badRows() {
		tables = append(tables, table{Name: "r", Arity: 2, Rows: [][]int{row}})
		rows := [][]int{{0, 1}, {5, 5}, row}
		slices.SortFunc(rows, slices.Compare[[]int])
		tables = append(tables, table{Name: "r", Arity: 2, Rows: rows})
	}
	return tables
}

// show returns the table in printable characters, whatever its name.
func show(t table) string {
	return fmt.Sprintf("{%+q %d %v}", t.Name, t.Arity, t.Rows)
}

func expectTable(t *testing.T, what string, got table, gotOK bool, want table, wantOK bool) {
	t.Helper()
	if !sameTable(got, want) || gotOK != wantOK {
		t.Errorf("%s = %v, %v, want %v, %v", what, show(got), gotOK, show(want), wantOK)
	}
}

func expectNewTable(t *testing.T, name string, arity int, rows [][]int, want table, wantOK bool) {
	t.Helper()
	got, ok := impl.NewTable(name, arity, rows)
	expectTable(t, fmt.Sprintf("NewTable(%q, %d, %v)", name, arity, rows), got, ok, want, wantOK)
}

func expectInserted(t *testing.T, from table, row []int, want table, wantOK bool) {
	t.Helper()
	got, ok := impl.InsertRow(from, row)
	expectTable(t, fmt.Sprintf("InsertRow(%v, %v)", show(from), row), got, ok, want, wantOK)
}

func expectDeleted(t *testing.T, from table, row []int, want table, wantOK bool) {
	t.Helper()
	got, ok := impl.DeleteRow(from, row)
	expectTable(t, fmt.Sprintf("DeleteRow(%v, %v)", show(from), row), got, ok, want, wantOK)
}

func expectContains(t *testing.T, in table, row []int, want bool) {
	t.Helper()
	if got := impl.ContainsRow(in, row); got != want {
		t.Errorf("ContainsRow(%v, %v) = %v", show(in), row, got)
	}
}

func expectParsedTable(t *testing.T, s string, want table, wantOK bool) {
	t.Helper()
	got, ok := impl.ParseTable(s)
	expectTable(t, fmt.Sprintf("ParseTable(%q)", s), got, ok, want, wantOK)
}

func TestTableLimits(t *testing.T) {
	if impl.MaxArity != 3 || impl.MaxTableRows != 8 || impl.MaxValue != 9 {
		t.Error("limits", impl.MaxArity, impl.MaxTableRows, impl.MaxValue)
	}
}

func TestCompareRowsValues(t *testing.T) {
	for _, c := range []struct {
		a, b []int
		want int
	}{
		{nil, nil, 0},
		{nil, []int{}, 0},
		{[]int{}, nil, 0},
		{nil, []int{0}, -1},
		{nil, []int{math.MinInt}, -1},
		{[]int{1}, []int{1, 0}, -1},
		{[]int{1}, []int{1, -1}, -1},
		{[]int{0, 1}, []int{1, 0}, -1},
		{[]int{1, 0}, []int{1, 1}, -1},
		{[]int{1, 2, 3}, []int{1, 2, 3}, 0},
		{[]int{1, 9, 9}, []int{2}, -1},
		{[]int{2}, []int{10}, -1},
		{[]int{1, 2, 3}, []int{1, 2, 4}, -1},
		{[]int{-1}, []int{0}, -1},
		{[]int{math.MinInt}, []int{math.MaxInt}, -1},
		{[]int{math.MaxInt - 1}, []int{math.MaxInt}, -1},
		{[]int{-5}, []int{math.MaxInt}, -1},
		{make([]int, 99), make([]int, 100), -1},
		{make([]int, 100), append(make([]int, 99), 1), -1},
	} {
		if got := impl.CompareRows(c.a, c.b); got != c.want {
			t.Errorf("CompareRows(%v, %v) = %d, want %d", c.a, c.b, got, c.want)
		}
		if got := impl.CompareRows(c.b, c.a); got != -c.want {
			t.Errorf("CompareRows(%v, %v) = %d, want %d", c.b, c.a, got, -c.want)
		}
	}
}

// The order of strings of digits is the order of the rows with these digits.
func TestCompareRowsAgainstStrings(t *testing.T) {
	words := stringsOver("0129", 4)
	for _, a := range words {
		for _, b := range words {
			x, y := append(rowsOf(a), nil)[0], append(rowsOf(b), nil)[0]
			if got, want := impl.CompareRows(x, y), strings.Compare(a, b); got != want {
				t.Errorf("CompareRows(%v, %v) = %d, want %d", x, y, got, want)
			}
		}
	}
}

func TestIsValidTable(t *testing.T) {
	for _, valid := range validTables() {
		if !impl.IsValidTable(valid) {
			t.Errorf("IsValidTable(%v) = false", show(valid))
		}
	}
	for letter := 'a'; letter <= 'z'; letter++ {
		if !impl.IsValidTable(tableOf(string(letter), 2, "01")) {
			t.Errorf("the name %c is refused", letter)
		}
	}
	for _, invalid := range invalidTables() {
		if impl.IsValidTable(invalid) {
			t.Errorf("IsValidTable(%v) = true", show(invalid))
		}
	}
}

// A table of arity 1 is valid exactly if it has at most eight values.
func TestOneColumnTables(t *testing.T) {
	for set := range 1 << 10 {
		values, few := oneColumnTable(set), bits.OnesCount(uint(set)) <= 8
		if impl.IsValidTable(values) != few {
			t.Errorf("IsValidTable(%v) = %v", show(values), !few)
		}
		if s := impl.FormatTable(values); (s != "") != few {
			t.Errorf("FormatTable(%v) = %q", show(values), s)
		}
	}
}

func TestNewTableValues(t *testing.T) {
	expectNewTable(t, "r", 2, [][]int{{1, 0}, {0, 1}, {1, 0}}, tableOf("r", 2, "01 10"), true)
	expectNewTable(t, "r", 2, nil, tableOf("r", 2, ""), true)
	expectNewTable(t, "a", 1, [][]int{}, tableOf("a", 1, ""), true)
	expectNewTable(t, "z", 3, rowsOf("999 000"), tableOf("z", 3, "000 999"), true)
	expectNewTable(t, "r", 2, rowsOf("20 12 11 02"), tableOf("r", 2, "02 11 12 20"), true)
	expectNewTable(t, "r", 1, rowsOf("7 6 5 4 3 2 1 0"), tableOf("r", 1, eightRows), true)
	expectNewTable(t, "r", 3, rowsOf("999 990 555 123 100 010 001 000"), tableOf("r", 3, eightTriples), true)
}

// A ninth row is too many, unless it is a duplicate.
func TestNewTableWithNinthRow(t *testing.T) {
	expectNewTable(t, "r", 1, rowsOf("0 1 2 3 4 5 6 7 8"), table{}, false)
	expectNewTable(t, "r", 1, rowsOf("8 7 6 5 4 3 2 1 0"), table{}, false)
	expectNewTable(t, "r", 2, rowsOf(eightPairs+" 56"), table{}, false)
	expectNewTable(t, "r", 3, rowsOf("444 "+eightTriples), table{}, false)
	expectNewTable(t, "r", 2, rowsOf(eightPairs+" 55"), tableOf("r", 2, eightPairs), true)
	expectNewTable(t, "r", 2, rowsOf("99 "+eightPairs+" 00"), tableOf("r", 2, eightPairs), true)
	expectNewTable(t, "r", 1, rowsOf(strings.Repeat(eightRows+" ", 40)), tableOf("r", 1, eightRows), true)
	expectNewTable(t, "r", 1, rowsOf(strings.Repeat("5 ", 1000)), tableOf("r", 1, "5"), true)
	expectNewTable(t, "r", 1, rowsOf(strings.Repeat(eightRows+" ", 40)+"9"), table{}, false)
}

func TestNewTableRefuses(t *testing.T) {
	for _, name := range badNames() {
		expectNewTable(t, name, 2, rowsOf("01 10"), table{}, false)
		expectNewTable(t, name, 2, nil, table{}, false)
	}
	for _, arity := range badArities() {
		expectNewTable(t, "r", arity, rowsOf("01 10"), table{}, false)
		expectNewTable(t, "r", arity, nil, table{}, false)
	}
	expectNewTable(t, "r", 0, [][]int{{}}, table{}, false)
	expectNewTable(t, "r", 4, rowsOf("0123"), table{}, false)
	for _, arity := range []int{1, 3} {
		expectNewTable(t, "r", arity, rowsOf("01 10"), table{}, false)
	}
	for _, row := range badRows() {
		expectNewTable(t, "r", 2, [][]int{row}, table{}, false)
		expectNewTable(t, "r", 2, [][]int{row, {0, 1}}, table{}, false)
		expectNewTable(t, "r", 2, [][]int{{0, 1}, row, {0, 1}, row}, table{}, false)
	}
}

// Rows in any order, with any duplicates, make the table with the set of these rows.
func TestNewTableMakesSets(t *testing.T) {
	for set := range 1 << 10 {
		want := oneColumnTable(set)
		backwards := cloneTable(want).Rows
		slices.Reverse(backwards)
		middle := len(backwards) / 2
		for _, rows := range [][][]int{
			want.Rows,
			backwards,
			slices.Concat(want.Rows, want.Rows),
			slices.Concat(backwards[middle:], want.Rows, backwards[:middle]),
		} {
			if len(want.Rows) <= 8 {
				expectNewTable(t, "a", 1, rows, want, true)
			} else {
				expectNewTable(t, "a", 1, rows, table{}, false)
			}
		}
	}
}

// Insertion and deletion of every value, against sets of bits.
func TestRowChangesAgainstSets(t *testing.T) {
	for set := range 1 << 10 {
		from, size := oneColumnTable(set), bits.OnesCount(uint(set))
		for value := range 10 {
			row, bit := []int{value}, 1<<value
			contained := size <= 8 && set&bit != 0
			expectContains(t, from, row, contained)
			inserted, deleted := from, from
			canInsert := size < 8 && set&bit == 0
			if canInsert {
				inserted = oneColumnTable(set | bit)
			}
			if contained {
				deleted = oneColumnTable(set &^ bit)
			}
			expectInserted(t, from, row, inserted, canInsert)
			expectDeleted(t, from, row, deleted, contained)
		}
	}
}

func TestContainsRow(t *testing.T) {
	r := tableOf("r", 2, "01 10 55 99")
	for first := -1; first <= 10; first++ {
		for second := -1; second <= 10; second++ {
			row := []int{first, second}
			expectContains(t, r, row, slices.ContainsFunc(r.Rows, func(other []int) bool { return slices.Equal(row, other) }))
		}
	}
	for _, row := range badRows() {
		expectContains(t, r, row, false)
	}
	expectContains(t, tableOf("r", 2, ""), []int{0, 0}, false)
	expectContains(t, tableOf("r", 3, "012"), []int{0, 1, 2}, true)
	expectContains(t, tableOf("r", 3, "012"), []int{0, 1}, false)
	for _, invalid := range invalidTables() {
		for _, row := range append(cloneTable(invalid).Rows, []int{0, 1}, nil) {
			expectContains(t, invalid, row, false)
		}
	}
}

func TestInsertRowValues(t *testing.T) {
	expectInserted(t, tableOf("r", 2, "01 10"), []int{0, 0}, tableOf("r", 2, "00 01 10"), true)
	expectInserted(t, tableOf("r", 2, "01 10"), []int{0, 9}, tableOf("r", 2, "01 09 10"), true)
	expectInserted(t, tableOf("r", 2, "01 10"), []int{9, 9}, tableOf("r", 2, "01 10 99"), true)
	expectInserted(t, tableOf("z", 3, ""), []int{0, 9, 0}, tableOf("z", 3, "090"), true)
	expectInserted(t, tableOf("r", 2, "01 10"), []int{0, 1}, tableOf("r", 2, "01 10"), false)
	expectInserted(t, tableOf("r", 2, "01 10"), []int{1, 0}, tableOf("r", 2, "01 10"), false)
	for _, row := range badRows() {
		expectInserted(t, tableOf("r", 2, "01 10"), row, tableOf("r", 2, "01 10"), false)
		expectInserted(t, tableOf("r", 2, ""), row, tableOf("r", 2, ""), false)
	}
}

// Eight rows can be inserted in any order, and no ninth one.
func TestInsertNinthRow(t *testing.T) {
	for _, c := range []struct{ arity, step int }{{1, 1}, {2, 3}, {3, 5}} {
		words := []string{"", eightRows, eightPairs, eightTriples}[c.arity]
		full, rows := tableOf("r", c.arity, words), rowsOf(words)
		grown := tableOf("r", c.arity, "")
		for i := range rows {
			var ok bool
			if grown, ok = impl.InsertRow(grown, rows[i*c.step%8]); !ok || len(grown.Rows) != i+1 {
				t.Errorf("row %d of arity %d: %v, %v", i, c.arity, show(grown), ok)
			}
		}
		expectTable(t, "eight insertions", grown, true, full, true)
		for value := range 10 {
			expectInserted(t, full, slices.Repeat([]int{value}, c.arity), full, false)
		}
	}
}

func TestInvalidTablesStayUnchanged(t *testing.T) {
	for _, invalid := range invalidTables() {
		for _, row := range append(cloneTable(invalid).Rows, []int{0, 1}, []int{4, 4}, []int{4}, []int{4, 4, 4}, nil) {
			expectInserted(t, invalid, row, invalid, false)
			expectDeleted(t, invalid, row, invalid, false)
		}
	}
}

func TestDeleteRowValues(t *testing.T) {
	expectDeleted(t, tableOf("r", 2, "00 01 10"), []int{0, 0}, tableOf("r", 2, "01 10"), true)
	expectDeleted(t, tableOf("r", 2, "00 01 10"), []int{0, 1}, tableOf("r", 2, "00 10"), true)
	expectDeleted(t, tableOf("r", 2, "00 01 10"), []int{1, 0}, tableOf("r", 2, "00 01"), true)
	expectDeleted(t, tableOf("z", 3, "090"), []int{0, 9, 0}, tableOf("z", 3, ""), true)
	expectDeleted(t, tableOf("r", 2, "00 01 10"), []int{1, 1}, tableOf("r", 2, "00 01 10"), false)
	expectDeleted(t, tableOf("r", 2, ""), []int{0, 0}, tableOf("r", 2, ""), false)
	for _, row := range badRows() {
		expectDeleted(t, tableOf("r", 2, "01 10"), row, tableOf("r", 2, "01 10"), false)
	}
	for _, full := range []table{tableOf("r", 1, eightRows), tableOf("r", 2, eightPairs), tableOf("r", 3, eightTriples)} {
		for i, row := range full.Rows {
			want := cloneTable(full)
			want.Rows = slices.Delete(want.Rows, i, i+1)
			expectDeleted(t, full, row, want, true)
			expectInserted(t, want, row, full, true)
		}
	}
}

func TestEqualTablesValues(t *testing.T) {
	r := tableOf("r", 2, "01 10")
	for _, other := range []table{
		tableOf("s", 2, "01 10"), tableOf("", 2, "01 10"), tableOf("rr", 2, "01 10"), tableOf("R", 2, "01 10"),
		tableOf("r", 1, "01 10"), tableOf("r", 3, "01 10"), tableOf("r", -2, "01 10"),
		tableOf("r", 2, ""), tableOf("r", 2, "01"), tableOf("r", 2, "10"), tableOf("r", 2, "10 01"), tableOf("r", 2, "01 11"),
		tableOf("r", 2, "00 10"), tableOf("r", 2, "01 10 11"), tableOf("r", 2, "01 10 10"), tableOf("r", 2, "01 1"),
		tableOf("r", 2, "01 100"), {Name: "r", Arity: 2, Rows: [][]int{{0, 1}, nil}}, {},
	} {
		if impl.EqualTables(r, other) || impl.EqualTables(other, r) {
			t.Errorf("%v equals %v", show(r), show(other))
		}
	}
	for _, c := range [][2]table{
		{{}, {Rows: [][]int{}}},
		{{Name: "r", Arity: 2}, {Name: "r", Arity: 2, Rows: [][]int{}}},
		{{Name: "r", Arity: 0, Rows: [][]int{nil}}, {Name: "r", Arity: 0, Rows: [][]int{{}}}},
	} {
		if !impl.EqualTables(c[0], c[1]) || !impl.EqualTables(c[1], c[0]) {
			t.Errorf("%v does not equal %v", show(c[0]), show(c[1]))
		}
	}
}

func TestEqualTablesAgainstReference(t *testing.T) {
	tables := slices.Concat(invalidTables(), validTables()[:200])
	for _, a := range tables {
		if !impl.EqualTables(a, cloneTable(a)) {
			t.Errorf("%v does not equal its copy", show(a))
		}
		for _, b := range tables {
			if got := impl.EqualTables(a, b); got != sameTable(a, b) {
				t.Errorf("EqualTables(%v, %v) = %v", show(a), show(b), got)
			}
		}
	}
}

func TestSelectColumns(t *testing.T) {
	for _, c := range []struct {
		row, columns, want []int
		wantOK             bool
	}{
		{[]int{5, 6, 7}, []int{2, 0}, []int{7, 5}, true},
		{[]int{5, 6, 7}, []int{0, 1, 2}, []int{5, 6, 7}, true},
		{[]int{5, 6, 7}, []int{1, 1, 1, 1}, []int{6, 6, 6, 6}, true},
		{[]int{5, 6, 7}, nil, nil, true},
		{nil, nil, nil, true},
		{[]int{}, []int{}, nil, true},
		{[]int{5}, []int{0}, []int{5}, true},
		{[]int{-5, 1000, math.MinInt}, []int{2, 1, 0}, []int{math.MinInt, 1000, -5}, true},
		{[]int{0, 1, 2, 3, 4, 5, 6, 7, 8, 99}, []int{9, 4}, []int{99, 4}, true},
		{[]int{5}, []int{1}, nil, false},
		{[]int{5}, []int{-1}, nil, false},
		{nil, []int{0}, nil, false},
		{[]int{5, 6, 7}, []int{3}, nil, false},
		{[]int{5, 6, 7}, []int{0, 1, 3}, nil, false},
		{[]int{5, 6, 7}, []int{-1, 1, 2}, nil, false},
		{[]int{5, 6, 7}, []int{2, -3, 1}, nil, false},
		{[]int{5, 6, 7}, []int{0, math.MaxInt}, nil, false},
		{[]int{5, 6, 7}, []int{0, math.MinInt}, nil, false},
		{[]int{5, 6, 7}, []int{1 << 32}, nil, false},
	} {
		got, ok := impl.SelectColumns(c.row, c.columns)
		if !slices.Equal(got, c.want) || ok != c.wantOK || !ok && got != nil {
			t.Errorf("SelectColumns(%v, %v) = %v, %v, want %v, %v", c.row, c.columns, got, ok, c.want, c.wantOK)
		}
	}
	// An index beyond the length is out of range, even within the capacity.
	if got, ok := impl.SelectColumns([]int{5, 6, 7}[:2], []int{2}); got != nil || ok {
		t.Errorf("a column beyond the row: %v, %v", got, ok)
	}
}

func TestFormatTableValues(t *testing.T) {
	for _, c := range []struct {
		table table
		want  string
	}{
		{tableOf("r", 2, "01 10"), "r2:01 10"},
		{tableOf("r", 2, ""), "r2:"},
		{tableOf("a", 1, "0"), "a1:0"},
		{tableOf("z", 3, "000 999"), "z3:000 999"},
		{tableOf("r", 1, eightRows), "r1:" + eightRows},
		{tableOf("r", 3, eightTriples), "r3:" + eightTriples},
	} {
		if got := impl.FormatTable(c.table); got != c.want {
			t.Errorf("FormatTable(%v) = %q, want %q", show(c.table), got, c.want)
		}
	}
	for _, invalid := range invalidTables() {
		if got := impl.FormatTable(invalid); got != "" {
			t.Errorf("FormatTable(%v) = %q, but the table is invalid", show(invalid), got)
		}
	}
}

// referenceFormat formats a valid table.
func referenceFormat(t table) string {
	var words []string
	for _, row := range t.Rows {
		words = append(words, strings.Trim(strings.ReplaceAll(fmt.Sprint(row), " ", ""), "[]"))
	}
	return fmt.Sprintf("%s%d:%s", t.Name, t.Arity, strings.Join(words, " "))
}

var tablePattern = regexp.MustCompile(`\A([a-z])(?:1:((?:[0-9](?: [0-9]){0,7})?)|2:((?:[0-9]{2}(?: [0-9]{2}){0,7})?)|3:((?:[0-9]{3}(?: [0-9]{3}){0,7})?))\z`)

// referenceParse accepts the strings of the pattern whose rows are strictly ascending.
func referenceParse(s string) (table, bool) {
	match := tablePattern.FindStringSubmatch(s)
	if match == nil {
		return table{}, false
	}
	words := strings.Fields(match[2] + match[3] + match[4])
	for i := 1; i < len(words); i++ {
		if words[i-1] >= words[i] {
			return table{}, false
		}
	}
	return tableOf(match[1], int(s[1]-'0'), strings.Join(words, " ")), true
}

func expectReferenceParse(t *testing.T, s string) {
	t.Helper()
	want, wantOK := referenceParse(s)
	expectParsedTable(t, s, want, wantOK)
}

func TestTableRoundTrip(t *testing.T) {
	for _, valid := range validTables() {
		s := impl.FormatTable(valid)
		if want := referenceFormat(valid); s != want {
			t.Errorf("FormatTable(%v) = %q, want %q", show(valid), s, want)
		}
		expectParsedTable(t, s, valid, true)
		if want, ok := referenceParse(s); !ok || !sameTable(want, valid) {
			t.Errorf("the reference does not parse %q", s)
		}
	}
}

func TestParseTableLimits(t *testing.T) {
	expectParsedTable(t, "r2:01 10", tableOf("r", 2, "01 10"), true)
	expectParsedTable(t, "r2:", tableOf("r", 2, ""), true)
	expectParsedTable(t, "a1:", tableOf("a", 1, ""), true)
	expectParsedTable(t, "z3:", tableOf("z", 3, ""), true)
	expectParsedTable(t, "r0:", table{}, false)
	expectParsedTable(t, "r4:", table{}, false)
	expectParsedTable(t, "r4:0123", table{}, false)
	expectParsedTable(t, "r1:"+eightRows, tableOf("r", 1, eightRows), true)
	expectParsedTable(t, "r2:"+eightPairs, tableOf("r", 2, eightPairs), true)
	expectParsedTable(t, "r3:"+eightTriples, tableOf("r", 3, eightTriples), true)
	expectParsedTable(t, "r1:"+eightRows+" 8", table{}, false)
	expectParsedTable(t, "r1:"+eightRows+" 8 9", table{}, false)
	expectParsedTable(t, "r1:"+eightRows+" 7", table{}, false)
	expectParsedTable(t, "r2:00 01 02 03 04 05 06 07 08", table{}, false)
	expectParsedTable(t, "r3:000 001 002 003 004 005 006 007 008", table{}, false)
	expectParsedTable(t, "r1:"+strings.Repeat("5 ", 1<<16), table{}, false)
	expectParsedTable(t, strings.Repeat("r", 1<<16)+"1:", table{}, false)
}

func TestParseTableRejects(t *testing.T) {
	for _, s := range []string{
		"", "r", "r2", ":", "2:", "r:", "r:01", ":01", "r2 01", "r201", "2r:01", "rr2:01", "r2:01:10", "r2::01", "r02:01", "r22:01", "r-2:01",
		"R2:01", "r2:10 01", "r2:01 01", "r2:01 10 01", "r2:01  10", "r2: 01", "r2:01 ", "r2: ", " r2:01", "r2:01 10 ", "r2:01\n", "\nr2:01",
		"r2:01\t10", "r2:01\n10", "r2:01,10", "r2:01;10", "r2:0110", "r2:0 1", "r2:0", "r2:012", "r2:01 2", "r2:01 123", "r1:01", "r3:01",
		"r2:0a", "r2:-1", "r2:+1", "r1:-1", "r1:10", "r2:0:", "r2:0/", "r2:\x00\x01", "r\x02:01", "r2:01\x00", "r2:01 \xb1\xb0", "é2:01",
		"r２:01", "r2:０１", "r2:01\u00a010", "r2:01\u008510", "r2:01\u300010", "r2:01\xa010", "r2:01\x8510", "r2:01\v10", "r2:01\r10", "a1:0\x0c1",
	} {
		expectParsedTable(t, s, table{}, false)
	}
}

// byteChanges returns all strings that result if one byte is removed, inserted or replaced.
func byteChanges(format string) []string {
	var changes []string
	for at := range len(format) + 1 {
		if at < len(format) {
			changes = append(changes, format[:at]+format[at+1:])
		}
		for value := range 256 {
			added := string([]byte{byte(value)})
			changes = append(changes, format[:at]+added+format[at:])
			if at < len(format) {
				changes = append(changes, format[:at]+added+format[at+1:])
			}
		}
	}
	return changes
}

// Each change of one byte is accepted exactly if the result is a format.
func TestParseTableBytes(t *testing.T) {
	for _, format := range []string{
		"r2:", "r2:01 10", "a1:5", "z3:000 999", "r1:0 2 4 6 8", "r1:" + eightRows, "r2:" + eightPairs, "r3:" + eightTriples,
	} {
		for _, s := range byteChanges(format) {
			expectReferenceParse(t, s)
		}
	}
}

// Every short string is accepted exactly if it is a format.
func TestParseTableAcceptsNothingElse(t *testing.T) {
	for _, s := range stringsOver(allBytes(), 2) {
		expectReferenceParse(t, s)
	}
	for _, s := range stringsOver("az0234:{ ", 5) {
		expectReferenceParse(t, s)
	}
	for _, head := range []string{"a0:", "a1:", "a2:", "a3:", "a4:", "A1:", "a1", "1:"} {
		for _, body := range stringsOver("0129 ", 5) {
			expectReferenceParse(t, head+body)
		}
		for _, body := range stringsOver("01 :a-", 4) {
			expectReferenceParse(t, head+body)
		}
	}
}

// changeable returns the string over bytes that the test can change afterwards.
func changeable(s string) (string, []byte) {
	memory := []byte(s)
	return unsafe.String(unsafe.SliceData(memory), len(memory)), memory
}

// surrounded is a table together with all memory around it, unused capacity included.
type surrounded struct {
	table table
	name  []byte
	rows  [][]int
	cells []int
}

// surround lays the rows side by side, so that the unused capacity of each holds the next one.
func surround(t table) surrounded {
	cells := []int{5, 6}
	for _, row := range t.Rows {
		cells = append(cells, row...)
	}
	cells = append(cells, 7, 1, 2, 3)
	rows, start := [][]int{{8}}, 2
	for _, row := range t.Rows {
		rows = append(rows, cells[start:start+len(row)])
		start += len(row)
	}
	rows = append(rows, []int{4}, []int{3, 3}, nil)
	name, memory := changeable(t.Name)
	return surrounded{table: table{Name: name, Arity: t.Arity, Rows: rows[1 : 1+len(t.Rows)]}, name: memory, rows: rows, cells: cells}
}

// content shows everything in the memory.
func (s surrounded) content() string {
	return fmt.Sprintf("%q %d %v %v %v", s.name, s.table.Arity, s.table.Rows, s.rows, s.cells)
}

// spoil overwrites everything in the memory.
func (s surrounded) spoil() {
	for i := range s.name {
		s.name[i] = 'x'
	}
	for i := range s.cells {
		s.cells[i] = 6
	}
	for i := range s.rows {
		s.rows[i] = []int{99}
	}
}

// tableResults holds all results of the functions of the chapter.
type tableResults struct {
	answers []string
	tables  []table
	lists   [][]int
}

func resultsForTables(a table, b table, row []int, columns []int, s string) *tableResults {
	var r tableResults
	answer := func(answers ...any) { r.answers = append(r.answers, fmt.Sprint(answers...)) }
	keep := func(t table, ok bool) {
		answer(ok)
		r.tables = append(r.tables, t)
	}
	answer(impl.CompareRows(row, columns), impl.EqualTables(a, b), impl.EqualTables(b, a))
	for _, t := range []table{a, b} {
		answer(impl.IsValidTable(t), impl.ContainsRow(t, row))
		r.answers = append(r.answers, impl.FormatTable(t))
		keep(impl.NewTable(t.Name, t.Arity, t.Rows))
		keep(impl.InsertRow(t, row))
		keep(impl.DeleteRow(t, row))
	}
	keep(impl.ParseTable(s))
	list, ok := impl.SelectColumns(row, columns)
	answer(ok)
	r.lists = append(r.lists, list)
	return &r
}

// content shows all results.
func (r *tableResults) content() string {
	tables := make([]string, 0, len(r.tables))
	for _, t := range r.tables {
		tables = append(tables, show(t))
	}
	return fmt.Sprintf("%q %v %v", r.answers, tables, r.lists)
}

// disjoint reports whether no two slices of one table, and no two results, share memory. It overwrites the results.
func (r *tableResults) disjoint() bool {
	lists := slices.Clone(r.lists)
	for i := range r.tables {
		// The rows are found before any of their lists is overwritten.
		lists = append(lists, r.tables[i].Rows...)
	}
	for i, list := range lists {
		full := list[:cap(list)]
		for k := range full {
			full[k] = 100 + i
		}
	}
	for i := range r.tables {
		full := r.tables[i].Rows[:cap(r.tables[i].Rows)]
		for k := range full {
			full[k] = []int{-i}
		}
	}
	for i, list := range lists {
		if slices.ContainsFunc(list[:cap(list)], func(n int) bool { return n != 100+i }) {
			return false
		}
	}
	for i := range r.tables {
		if slices.ContainsFunc(r.tables[i].Rows, func(row []int) bool { return row[0] != -i }) {
			return false
		}
	}
	return true
}

// argumentTables returns valid and invalid tables for the tests of memory.
func argumentTables() []table {
	return []table{
		{}, tableOf("r", 2, ""), tableOf("r", 2, "01"), tableOf("r", 2, "01 10 55"), tableOf("s", 2, "10 01 10"), tableOf("r", 2, eightPairs),
		tableOf("r", 2, "01 1 012"), tableOf("rs", 2, "01 10"), tableOf("r", 4, "01 01"), tableOf("q", 3, "012 345"), tableOf("a", 1, eightRows+" 8"),
	}
}

func argumentRows() [][]int {
	return [][]int{nil, {0, 1}, {1, 0}, {3, 3}, {9, 9}, {0, 1, 2}, {5}, {-1, 10}}
}

func TestTablesLeaveArgumentsAlone(t *testing.T) {
	for _, first := range argumentTables() {
		for _, second := range argumentTables() {
			for i, word := range argumentRows() {
				selected := [][]int{{0, 1}, {1, 0, 1}, {2}, {-1}}[i%4]
				format := []string{"", "r2:01 10", "r2:10 01", "q3:"}[i%4]
				a, b := surround(first), surround(second)
				row, rowMemory := withMargin(word)
				columns, columnsMemory := withMargin(selected)
				s, sMemory := changeable(format)
				content := func() string {
					return a.content() + b.content() + fmt.Sprint(rowMemory, columnsMemory, sMemory)
				}
				before := content()
				results := resultsForTables(a.table, b.table, row, columns, s)
				if after := content(); after != before {
					t.Fatalf("the arguments\n%s\nbecame\n%s", before, after)
				}
				// The change of an argument changes no result, and no later call.
				shown := results.content()
				a.spoil()
				b.spoil()
				clear(rowMemory)
				clear(columnsMemory)
				clear(sMemory)
				if now := results.content(); now != shown {
					t.Fatalf("the results\n%s\nbecame\n%s", shown, now)
				}
				again := resultsForTables(first, second, word, selected, format)
				if now := again.content(); now != shown {
					t.Fatalf("the results\n%s\nof the same arguments became\n%s", shown, now)
				}
			}
		}
	}
}

// The change of a result, its unused capacity included, changes neither an argument nor another result.
func TestTableResultsAreNewMemory(t *testing.T) {
	for _, first := range argumentTables() {
		for _, word := range argumentRows() {
			a, b := surround(first), surround(tableOf("r", 2, "01 10 55"))
			row, rowMemory := withMargin(word)
			columns, columnsMemory := withMargin([]int{1, 0})
			content := func() string { return a.content() + b.content() + fmt.Sprint(rowMemory, columnsMemory) }
			before := content()
			results := resultsForTables(a.table, b.table, row, columns, "r2:01 10 55")
			others := resultsForTables(a.table, b.table, row, columns, "r2:01 10 55")
			shown := others.content()
			if !results.disjoint() {
				t.Fatalf("two slices of the results for %v and %v share memory", show(first), word)
			}
			if after := content(); after != before {
				t.Fatalf("the change of a result changed the arguments\n%s\nto\n%s", before, after)
			}
			if now := others.content(); now != shown {
				t.Fatalf("the change of a result changed the other results\n%s\nto\n%s", shown, now)
			}
		}
	}
}

// Rows that share memory in an argument do not share it in a result.
func TestSharedRowsAreSeparated(t *testing.T) {
	memory := []int{0, 1, 0, 2}
	shared := table{Name: "r", Arity: 2, Rows: [][]int{memory[0:2], memory[2:4], memory[1:3]}}
	twice := table{Name: "r", Arity: 2, Rows: [][]int{memory[0:2], memory[0:2]}}
	for _, from := range []table{shared, twice} {
		for _, row := range [][]int{memory[1:3], memory[0:2], {5, 5}} {
			if !resultsForTables(from, shared, row, nil, "").disjoint() {
				t.Errorf("two slices of the results for %v and %v share memory", show(from), row)
			}
			if !slices.Equal(memory, []int{0, 1, 0, 2}) {
				t.Fatal("the change of a result changed an argument", memory)
			}
		}
	}
}

func TestTableSamplesAreAsNamed(t *testing.T) {
	for _, valid := range validTables() {
		if parsed, ok := referenceParse(referenceFormat(valid)); !ok || !sameTable(parsed, valid) {
			t.Errorf("the sample %v is not valid", show(valid))
		}
	}
	for _, invalid := range invalidTables() {
		if parsed, ok := referenceParse(referenceFormat(invalid)); ok && sameTable(parsed, invalid) {
			t.Errorf("the sample %v is valid", show(invalid))
		}
	}
}
