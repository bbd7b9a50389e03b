package tests

import (
	"fmt"
	"math"
	"math/rand/v2"
	"slices"
	"strings"
	"testing"

	"loop.example/g01921/impl"
)

// Promise 5, as far as degree sequences go: they add up to the number of rows, and a join has at most as many rows as they allow.

// digitsIn returns the list of the digits of a word.
func digitsIn(word string) []int {
	return append(rowsOf(word), nil)[0]
}

// validColumns returns the strictly ascending lists of columns of a table of this arity.
func validColumns(arity int) [][]int {
	var lists [][]int
	for _, word := range []string{"", "0", "1", "01", "2", "02", "12", "012"}[:1<<arity] {
		lists = append(lists, digitsIn(word))
	}
	return lists
}

func containsList(lists [][]int, list []int) bool {
	return slices.ContainsFunc(lists, func(other []int) bool { return slices.Equal(list, other) })
}

// badColumns returns lists with a column that is out of range, or that are not strictly ascending.
func badColumns(arity int) [][]int {
	var lists [][]int
	for _, list := range append(listsUpTo(4), make([]int, 300), repeated(2, 8), digitsIn("0123456789")) {
		if !containsList(validColumns(arity), list) {
			lists = append(lists, list)
		}
	}
	for _, column := range append(badVariables(), -8, 8, 64, 65, 1<<32+1, math.MaxInt-1) {
		lists = append(lists, []int{column}, []int{0, column}, []int{column, 0}, []int{0, 1, column}, []int{0, column, 2})
	}
	return lists
}

// referenceGroups returns the combinations of values in the columns, as words, and their degrees. It counts equal words that are side by side.
func referenceGroups(t table, columns []int) ([]string, []int) {
	var words []string
	for _, row := range t.Rows {
		word := ""
		for _, column := range columns {
			word += tenDigits[row[column] : row[column]+1]
		}
		words = append(words, word)
	}
	slices.Sort(words)
	groups := slices.Compact(slices.Clone(words))
	var degrees []int
	for start := 0; start < len(words); start += degrees[len(degrees)-1] {
		end := start
		for end < len(words) && words[end] == words[start] {
			end++
		}
		degrees = append(degrees, end-start)
	}
	return groups, degrees
}

// descending returns the numbers in descending order.
func descending(numbers []int) []int {
	sorted := slices.Sorted(slices.Values(numbers))
	slices.Reverse(sorted)
	return sorted
}

// partitions returns all degree sequences: the descending lists of positive numbers whose sum is at most the limit.
func partitions(limit int, largest int) [][]int {
	lists := [][]int{{}}
	for first := 1; first <= min(limit, largest); first++ {
		for _, rest := range partitions(limit-first, first) {
			lists = append(lists, append([]int{first}, rest...))
		}
	}
	return lists
}

func degreeSequences() [][]int {
	return partitions(8, 8)
}

// notDegreeSequences returns lists that break one condition, and lists whose sum overflows.
func notDegreeSequences() [][]int {
	return [][]int{
		{0}, {0, 0}, {-1}, {1, 0}, {8, 0}, {3, 0, 2}, {0, 1}, {2, -1}, {2, -1, 1}, {4, -4}, {-2, -3}, {5, 3, -1}, {9, -1},
		{1, 2}, {2, 3}, {3, 1, 2}, {1, 1, 2}, {2, 1, 1, 2}, {4, 2, 1, 3}, {1, 7}, {3, 4}, {2, 2, 2, 1, 2},
		{9}, {8, 1}, {7, 2}, {7, 1, 1}, {5, 4}, {4, 4, 1}, {3, 3, 3}, {2, 2, 2, 2, 1}, {10}, {16}, {255}, {256 + 3}, {1<<32 + 3},
		repeated(1, 9), repeated(1, 10), repeated(1, 300), repeated(2, 5), repeated(0, 300), repeated(8, 2), append(repeated(1, 8), 0),
		{math.MaxInt}, {math.MaxInt, 1}, {math.MaxInt, math.MaxInt, 2}, {math.MaxInt, math.MaxInt, 4}, {math.MinInt}, {math.MinInt, math.MinInt}, {8, math.MinInt}, {8, math.MaxInt}, {1, math.MaxInt, math.MaxInt, 2},
		repeated(1<<62, 4), repeated(1<<61, 8), append(repeated(1<<62, 4), 3, 2, 1), append(repeated(1<<32, 4), 1), {1 << 62, 1 << 62}, {math.MaxInt, 5, 4, 3},
	}
}

// paired returns the sum of the products of the elements that both lists have.
func paired(a []int, b []int) int {
	sum := 0
	for i := range min(len(a), len(b)) {
		sum += a[i] * b[i]
	}
	return sum
}

func expectGroups(t *testing.T, in table, columns []int, words []string, degrees []int) {
	t.Helper()
	values, counts := impl.GroupCounts(in, columns)
	var want [][]int
	for _, word := range words {
		want = append(want, digitsIn(word))
	}
	if !sameRows(values, want) || !slices.Equal(counts, degrees) {
		t.Errorf("GroupCounts(%v, %v) = %v, %v, want %v, %v", show(in), columns, values, counts, want, degrees)
	}
	expectDegrees(t, in, columns, descending(degrees))
}

func expectDegrees(t *testing.T, in table, columns []int, want []int) {
	t.Helper()
	expectVariables(t, fmt.Sprintf("DegreeSequence(%v, %v)", show(in), columns), impl.DegreeSequence(in, columns), want)
	greatest := slices.Max(append([]int{0}, want...))
	if got := impl.MaxDegree(in, columns); got != greatest {
		t.Errorf("MaxDegree(%v, %v) = %d, want %d", show(in), columns, got, greatest)
	}
}

// expectNoGroups expects the fixed results for an invalid table or invalid columns.
func expectNoGroups(t *testing.T, in table, columns []int) {
	t.Helper()
	expectGroups(t, in, columns, nil, nil)
}

func expectTop(t *testing.T, sequence []int, k int, want int) {
	t.Helper()
	if got := impl.TopDegrees(sequence, k); got != want {
		t.Errorf("TopDegrees(%v, %d) = %d, want %d", sequence, k, got, want)
	}
}

func expectTotal(t *testing.T, sequence []int, want int) {
	t.Helper()
	if got := impl.SequenceTotal(sequence); got != want {
		t.Errorf("SequenceTotal(%v) = %d, want %d", sequence, got, want)
	}
}

func expectDominates(t *testing.T, a []int, b []int, want bool) {
	t.Helper()
	if got := impl.DominatesSequence(a, b); got != want {
		t.Errorf("DominatesSequence(%v, %v) = %v", a, b, got)
	}
}

// someK returns numbers of elements, inside and outside of every list.
func someK() []int {
	return []int{-1, 0, 1, 2, 3, 4, 5, 6, 7, 8, 9, 10, 64, 256 + 1, 1<<32 + 1, -8, -1 << 32, 1 << 62, math.MaxInt - 1, math.MaxInt, math.MinInt, math.MinInt + 1}
}

func TestGroupCountsValues(t *testing.T) {
	for _, c := range []struct {
		format  string
		columns string
		groups  string
		degrees string
	}{
		{"r2:00 01 11", "0", "0 1", "21"},
		{"r2:00 01 11", "1", "0 1", "12"},
		{"r2:00 01 11", "01", "00 01 11", "111"},
		// The groups are in the order of their values, not of their degrees.
		{"r2:09 10 11 12 93 94", "0", "0 1 9", "132"},
		{"r2:09 19 20 29 90", "1", "0 9", "23"},
		{"r1:3", "0", "3", "1"},
		{"r1:0 4 9", "0", "0 4 9", "111"},
		{"q3:012", "02", "02", "1"},
		{"q3:000 010 011 100 101 110 200", "0", "0 1 2", "331"},
		{"q3:000 010 011 100 101 110 200", "1", "0 1", "43"},
		{"q3:000 010 011 100 101 110 200", "2", "0 1", "52"},
		{"q3:000 010 011 100 101 110 200", "01", "00 01 10 11 20", "12211"},
		{"q3:000 010 011 100 101 110 200", "02", "00 01 10 11 20", "21211"},
		{"q3:000 010 011 100 101 110 200", "12", "00 01 10 11", "3121"},
		{"q3:000 010 011 100 101 110 200", "012", "000 010 011 100 101 110 200", "1111111"},
		// Eight rows in one group and in eight groups.
		{"z3:050 151 252 353 454 555 656 757", "1", "5", "8"},
		{"z3:050 151 252 353 454 555 656 757", "0", "0 1 2 3 4 5 6 7", "11111111"},
		{"z3:150 251 352 453 554 655 756 957", "02", "10 21 32 43 54 65 76 97", "11111111"},
		// Columns that differ only together.
		{"q3:011 101", "2", "1", "2"},
		{"q3:011 101", "01", "01 10", "11"},
		{"q3:011 101 110", "12", "01 10 11", "111"},
	} {
		expectGroups(t, databaseFrom(c.format).Tables[0], digitsIn(c.columns), strings.Fields(c.groups), digitsIn(c.degrees))
	}
}

// The edge case: no columns. There is one group if there are rows, and its degree is the number of rows.
func TestNoColumns(t *testing.T) {
	for _, columns := range [][]int{nil, {}, make([]int, 0, 5), digitsIn("120")[:0]} {
		for _, in := range validTables() {
			values, degrees := impl.GroupCounts(in, columns)
			if rows := len(in.Rows); rows == 0 {
				if len(values) != 0 || len(degrees) != 0 {
					t.Errorf("GroupCounts(%v, %v) = %v, %v", show(in), columns, values, degrees)
				}
				expectDegrees(t, in, columns, nil)
			} else {
				if len(values) != 1 || len(values[0]) != 0 || !slices.Equal(degrees, []int{rows}) {
					t.Errorf("GroupCounts(%v, %v) = %v, %v", show(in), columns, values, degrees)
				}
				expectDegrees(t, in, columns, []int{rows})
			}
		}
		for _, invalid := range invalidTables() {
			expectNoGroups(t, invalid, columns)
		}
	}
	// A join without shared variables is the product of the numbers of rows.
	for _, words := range []string{"r(XY) s(Z)", "r(ZX) s(Y)", "s(X) s(Y)", "s(Z) r(XY)"} {
		db, q := databaseFrom("r2:01 09 90;s1:0 1 5 9"), queryOf(words)
		first, _ := impl.LookupTable(db, q.Atoms[0].Name)
		second, _ := impl.LookupTable(db, q.Atoms[1].Name)
		if size, product := impl.SubquerySize(db, q, 3), impl.MaxDegree(first, nil)*impl.MaxDegree(second, nil); size != product {
			t.Errorf("%s has %d rows, but the degrees are %d", words, size, product)
		}
	}
}

// sampledTables returns the valid sample tables, and arbitrary tables of few and of many values.
func sampledTables() []table {
	tables := validTables()
	source := rand.New(rand.NewPCG(10, 5))
	for range 60 {
		for arity := 1; arity <= 3; arity++ {
			for _, digits := range []string{"01", "059", "1234", tenDigits} {
				tables = append(tables, scatteredTable(source, "r", arity, digits))
			}
		}
	}
	return tables
}

func TestGroupsAgainstReference(t *testing.T) {
	for _, in := range sampledTables() {
		for _, columns := range validColumns(in.Arity) {
			words, degrees := referenceGroups(in, columns)
			expectGroups(t, in, columns, words, degrees)
		}
	}
}

// Each table of two columns of three values, up to the limit of eight rows.
func TestAllSmallTables(t *testing.T) {
	bodies := subsetsOf(wordsOfLength("049", 2))
	nineRows := len(bodies) - 1
	for _, body := range bodies[:nineRows] {
		in := tableOf("r", 2, body)
		for _, columns := range validColumns(2) {
			groups, degrees := referenceGroups(in, columns)
			expectGroups(t, in, columns, groups, degrees)
		}
	}
	expectNoGroups(t, tableOf("r", 2, bodies[nineRows]), []int{0})
}

// Every row is counted in exactly one group, so that the degrees add up to the number of rows.
func TestDegreesAddUp(t *testing.T) {
	for _, in := range sampledTables() {
		for _, columns := range validColumns(in.Arity) {
			values, degrees := impl.GroupCounts(in, columns)
			sequence := impl.DegreeSequence(in, columns)
			if !impl.IsDegreeSequence(sequence) || !slices.Equal(descending(degrees), sequence) {
				t.Errorf("the degree sequence of %v for %v is %v", show(in), columns, sequence)
			}
			expectTotal(t, sequence, len(in.Rows))
			expectTop(t, sequence, len(sequence), len(in.Rows))
			for i, group := range values {
				matching := 0
				for _, row := range in.Rows {
					if selected, _ := impl.SelectColumns(row, columns); slices.Equal(selected, group) {
						matching++
					}
				}
				if matching != degrees[i] || matching == 0 || i > 0 && impl.CompareRows(values[i-1], group) >= 0 {
					t.Errorf("GroupCounts(%v, %v) = %v, %v", show(in), columns, values, degrees)
				}
			}
		}
	}
}

// With more columns, groups are divided: no columns dominate all others, and all columns have the degree 1.
func TestMoreColumnsAreDominated(t *testing.T) {
	for _, in := range sampledTables() {
		lists := validColumns(in.Arity)
		for some, columns := range lists {
			for more, others := range lists {
				if some&^more == 0 {
					expectDominates(t, impl.DegreeSequence(in, columns), impl.DegreeSequence(in, others), true)
				}
			}
		}
		expectDegrees(t, in, lists[len(lists)-1], repeated(1, len(in.Rows)))
	}
}

// joinSequences returns the degree sequences of the two atoms of a query in their shared variables.
func joinSequences(db database, q query) ([]int, []int) {
	shared := impl.SharedVariables(q, 1, 2)
	var sequences [][]int
	for _, in := range q.Atoms {
		of, _ := impl.LookupTable(db, in.Name)
		sequences = append(sequences, impl.DegreeSequence(of, impl.AtomColumns(in, shared)))
	}
	return sequences[0], sequences[1]
}

// expectJoinBounded compares the size of a join of two atoms with what the degree sequences in the shared variables allow.
func expectJoinBounded(t *testing.T, db database, q query) int {
	t.Helper()
	a, b := joinSequences(db, q)
	size := impl.SubquerySize(db, q, 3)
	product := impl.SequenceTotal(a) * impl.SequenceTotal(b)
	leftToRight := impl.SequenceTotal(a) * impl.TopDegrees(b, 1)
	rightToLeft := impl.SequenceTotal(b) * impl.TopDegrees(a, 1)
	// A group of one table meets at most one of the other.
	fewest := min(impl.TopDegrees(a, len(b))*impl.TopDegrees(b, 1), impl.TopDegrees(b, len(a))*impl.TopDegrees(a, 1))
	if size < 0 || size > min(product, leftToRight, rightToLeft, fewest, paired(a, b)) {
		t.Errorf("%v has %d rows in %v, but the degree sequences are %v and %v", showQuery(q), size, showDatabase(db), a, b)
	}
	return size - paired(a, b)
}

// arbitraryJoins yields queries of two atoms with arbitrary tables of few and of many values.
func arbitraryJoins(yield func(db database, q query) bool) {
	source := rand.New(rand.NewPCG(5, 10))
	for _, words := range []string{
		"a(X) b(X)", "a(X) b(Y)", "a(X) a(X)", "r(XY) a(X)", "b(Y) r(XY)", "r(XY) s(YZ)", "r(XY) s(XZ)", "r(YX) s(ZX)", "r(XY) s(YX)", "r(XY) s(XY)", "r(XY) s(ZU)",
		"r(XY) r(YZ)", "x(XYZ) r(ZU)", "x(XYZ) r(ZY)", "x(UYX) y(XYZ)", "x(XYZ) y(ZXU)", "y(XYZ) x(ZXY)", "x(XYZ) x(YZX)", "x(XYZ) b(U)", "s(XZ) y(YZU)",
	} {
		for _, digits := range []string{"01", "019", "2345", tenDigits} {
			for range 40 {
				db := database{}
				for i, name := range []string{"a", "b", "r", "s", "x", "y"} {
					db.Tables = append(db.Tables, scatteredTable(source, name, i/2+1, digits))
				}
				if !yield(db, queryOf(words)) {
					return
				}
			}
		}
	}
}

// The size of a join is at most what the degree sequences of its tables allow, and in some joins it is equal.
func TestJoinsAreBounded(t *testing.T) {
	equal := 0
	for db, q := range arbitraryJoins {
		if expectJoinBounded(t, db, q) == 0 {
			equal++
		}
	}
	if equal < 100 {
		t.Error("only", equal, "joins are as large as the degree sequences allow")
	}
}

// tableWithDegrees returns the table in whose column at the value start+i occurs sequence[i] times.
func tableWithDegrees(name string, at int, start int, sequence []int) table {
	var words []string
	for i, degree := range sequence {
		for k := range degree {
			value, other := tenDigits[start+i:start+i+1], tenDigits[k:k+1]
			words = append(words, []string{value + other, other + value}[at])
		}
	}
	slices.Sort(words)
	return tableOf(name, 2, strings.Join(words, " "))
}

// Every degree sequence is that of a table, and two tables whose greatest groups meet have a join that is as large as they allow.
func TestEverySequenceOccurs(t *testing.T) {
	for _, first := range degreeSequences() {
		for at := range 2 {
			for start := range 3 {
				expectDegrees(t, tableWithDegrees("r", at, start, first), []int{at}, first)
			}
		}
		for _, second := range degreeSequences() {
			db := databaseOf(tableWithDegrees("r", 1, 1, first), tableWithDegrees("s", 0, 1, second))
			if difference := expectJoinBounded(t, db, queryOf("r(XY) s(YZ)")); difference != 0 {
				t.Errorf("the join in %v differs by %d", showDatabase(db), difference)
			}
		}
	}
}

// Columns out of range, descending columns and repeated columns.
func TestGroupsOfBadColumns(t *testing.T) {
	for _, format := range []string{"r1:", "r1:0", "r1:0 1 2 3 4 5 6 7", "r2:", "r2:00 01 11", "r2:55", "r2:" + eightPairs, "r3:", "r3:012", "r3:" + eightTriples} {
		in := databaseFrom(format).Tables[0]
		for _, columns := range badColumns(in.Arity) {
			expectNoGroups(t, in, columns)
		}
	}
}

func TestGroupsOfInvalidTables(t *testing.T) {
	for _, invalid := range invalidTables() {
		for _, columns := range append(validColumns(3), []int{-1}, []int{1, 0}, []int{0, 0}, []int{3}) {
			expectNoGroups(t, invalid, columns)
		}
	}
}

// The order of the results does not depend on the order of a map.
func TestGroupsAreRepeated(t *testing.T) {
	in := tableOf("r", 2, "09 18 27 36 45 54 63 72")
	for range 300 {
		for _, columns := range validColumns(2) {
			words, degrees := referenceGroups(in, columns)
			expectGroups(t, in, columns, words, degrees)
		}
	}
}

func TestIsDegreeSequenceValues(t *testing.T) {
	for _, sequence := range append(degreeSequences(), nil, []int{}, []int{8}, []int{4, 4}, []int{7, 1}, []int{3, 2, 1}, []int{2, 2, 2, 2}, repeated(1, 8)) {
		if !impl.IsDegreeSequence(sequence) {
			t.Errorf("IsDegreeSequence(%v) = false", sequence)
		}
	}
	for _, list := range notDegreeSequences() {
		if impl.IsDegreeSequence(list) {
			t.Errorf("IsDegreeSequence(%v) = true", list)
		}
	}
	for _, wrong := range append(badValues(), 9) {
		for _, sequence := range degreeSequences() {
			for at := range sequence {
				if list := replaced(sequence, at, wrong); impl.IsDegreeSequence(list) {
					t.Errorf("IsDegreeSequence(%v) = true", list)
				}
			}
			if list := append(slices.Clone(sequence), wrong); impl.IsDegreeSequence(list) {
				t.Errorf("IsDegreeSequence(%v) = true", list)
			}
		}
	}
}

// shortLists returns all lists of few numbers, negative ones and such beyond the limit included.
func shortLists() [][]int {
	return slices.Concat(listsUpTo(5), rowsUpTo("012789", 4), rowsUpTo("012", 9))
}

// Each short list is a degree sequence exactly if it is one of the partitions.
func TestSequencesAgainstPartitions(t *testing.T) {
	sequences := map[string]bool{}
	for _, sequence := range degreeSequences() {
		sequences[fmt.Sprint(sequence)] = true
	}
	for _, list := range shortLists() {
		want := sequences[fmt.Sprint(list)]
		if got := impl.IsDegreeSequence(list); got != want {
			t.Errorf("IsDegreeSequence(%v) = %v", list, got)
		}
		total, first := 0, 0
		if want {
			for _, degree := range list {
				total += degree
			}
			first = append(slices.Clone(list), 0)[0]
		}
		expectTotal(t, list, total)
		expectTop(t, list, 1, first)
		expectDominates(t, list, list, want)
	}
}

func TestTopDegreesValues(t *testing.T) {
	for _, c := range []struct {
		sequence []int
		k, want  int
	}{
		{[]int{3, 2, 1}, 2, 5},
		{[]int{3, 2, 1}, 1, 3},
		{[]int{3, 2, 1}, 3, 6},
		{[]int{3, 2, 1}, 4, 6},
		{[]int{3, 2, 1}, math.MaxInt, 6},
		{[]int{3, 2, 1}, 0, 0},
		{[]int{3, 2, 1}, -1, 0},
		{[]int{3, 2, 1}, -2, 0},
		{[]int{3, 2, 1}, math.MinInt, 0},
		{[]int{4, 4}, 1, 4},
		{[]int{4, 4}, 2, 8},
		{[]int{8}, 1, 8},
		{[]int{8}, 2, 8},
		{repeated(1, 8), 7, 7},
		{repeated(1, 8), 8, 8},
		{repeated(1, 8), 9, 8},
		{nil, 1, 0},
		{nil, 8, 0},
		{[]int{}, math.MaxInt, 0},
		// The first elements alone would be a degree sequence.
		{[]int{8, 1}, 1, 0},
		{[]int{3, 2, 4}, 2, 0},
		{[]int{3, 2, 0}, 2, 0},
		{[]int{2, 3}, 1, 0},
		{repeated(1, 9), 8, 0},
		{repeated(1, 9), 1, 0},
	} {
		expectTop(t, c.sequence, c.k, c.want)
	}
}

// The sum grows by one element at a time and never exceeds the total.
func TestTopDegreesOfAllSequences(t *testing.T) {
	for _, sequence := range degreeSequences() {
		total := 0
		for i, degree := range sequence {
			expectTop(t, sequence, i, total)
			total += degree
			expectTop(t, sequence, i+1, total)
		}
		expectTotal(t, sequence, total)
		for _, k := range someK() {
			if k < 1 {
				expectTop(t, sequence, k, 0)
			} else if k >= len(sequence) {
				expectTop(t, sequence, k, total)
			}
		}
	}
}

func TestSumsOfInvalidSequences(t *testing.T) {
	for _, list := range notDegreeSequences() {
		expectTotal(t, list, 0)
		for _, k := range someK() {
			expectTop(t, list, k, 0)
		}
	}
}

func TestSequenceTotalValues(t *testing.T) {
	for _, c := range []struct {
		sequence []int
		want     int
	}{
		{[]int{3, 2, 1}, 6}, {nil, 0}, {[]int{}, 0}, {[]int{8}, 8}, {[]int{1}, 1}, {[]int{4, 4}, 8}, {[]int{4, 3}, 7}, {repeated(1, 8), 8}, {repeated(2, 4), 8},
		{[]int{9}, 0}, {[]int{4, 4, 1}, 0}, {[]int{1, 2}, 0}, {[]int{2, 0}, 0}, {repeated(1, 9), 0}, {[]int{-3}, 0},
	} {
		expectTotal(t, c.sequence, c.want)
	}
}

func TestDominatesSequenceValues(t *testing.T) {
	for _, c := range []struct {
		a, b []int
		want bool
	}{
		{[]int{3, 1}, []int{2, 2}, true},
		{[]int{2, 2}, []int{3, 1}, false},
		{[]int{2, 2}, []int{2, 2}, true},
		{[]int{4}, []int{1, 1, 1, 1}, true},
		{[]int{4}, []int{1, 1, 1, 1, 1}, false},
		{[]int{8}, repeated(1, 8), true},
		{repeated(1, 8), []int{8}, false},
		{repeated(1, 8), repeated(1, 7), true},
		{repeated(1, 7), repeated(1, 8), false},
		{[]int{2, 2, 2, 2}, repeated(1, 8), true},
		// Greater at first, but not in total, and the reverse.
		{[]int{5, 1}, []int{3, 2, 2}, false},
		{[]int{3, 2, 2}, []int{5, 1}, false},
		{[]int{3, 3, 1, 1}, []int{4, 1, 1, 1, 1}, false},
		{[]int{4, 1, 1, 1, 1}, []int{3, 3, 1, 1}, false},
		{[]int{4, 1, 1, 1}, []int{3, 2, 1, 1}, true},
		// An element may be less, as the sums are not.
		{[]int{4, 2}, []int{3, 3}, true},
		{[]int{5, 1, 1}, []int{3, 3, 1}, true},
		{[]int{5, 1, 1}, []int{3, 3, 2}, false},
		{nil, nil, true},
		{[]int{}, nil, true},
		{[]int{1}, nil, true},
		{nil, []int{1}, false},
		{[]int{8}, nil, true},
	} {
		expectDominates(t, c.a, c.b, c.want)
	}
}

// A sequence dominates another one exactly if it allows no smaller join with any table.
func TestDominationAgainstJoins(t *testing.T) {
	sequences := degreeSequences()
	for _, a := range sequences {
		for _, b := range sequences {
			dominates := true
			for _, other := range sequences {
				dominates = dominates && paired(a, other) >= paired(b, other)
			}
			expectDominates(t, a, b, dominates)
			if dominates && impl.SequenceTotal(a) < impl.SequenceTotal(b) {
				t.Errorf("%v dominates %v, which has more rows", a, b)
			}
		}
	}
}

// A list that is no degree sequence dominates nothing, and nothing dominates it.
func TestDominationOfInvalidSequences(t *testing.T) {
	for _, invalid := range notDegreeSequences() {
		for _, other := range slices.Concat(degreeSequences(), notDegreeSequences()) {
			expectDominates(t, invalid, other, false)
			expectDominates(t, other, invalid, false)
		}
	}
}

// degreeResults holds all results of the functions of the chapter.
type degreeResults struct {
	texts  []string
	groups [][][]int
	lists  [][]int
}

func resultsForDegrees(in table, columns []int, a []int, b []int) *degreeResults {
	var r degreeResults
	for _, list := range [][]int{columns, a, b} {
		groups, degrees := impl.GroupCounts(in, list)
		r.groups = append(r.groups, groups)
		r.lists = append(r.lists, degrees, impl.DegreeSequence(in, list))
		r.texts = append(r.texts, fmt.Sprint(impl.MaxDegree(in, list), impl.IsDegreeSequence(list), impl.SequenceTotal(list), impl.TopDegrees(list, 2), impl.TopDegrees(list, 300)))
	}
	r.texts = append(r.texts, fmt.Sprint(impl.DominatesSequence(a, b), impl.DominatesSequence(b, a), impl.DominatesSequence(a, columns)))
	return &r
}

// content shows all results.
func (r *degreeResults) content() string {
	return fmt.Sprint(r.texts, r.groups, r.lists)
}

// disjoint reports whether no two slices of one result, and no two results, share memory. It overwrites the results.
func (r *degreeResults) disjoint() bool {
	all := tableResults{lists: r.lists}
	for _, groups := range r.groups {
		all.tables = append(all.tables, table{Rows: groups})
	}
	return all.disjoint()
}

// argumentLists returns degree sequences, columns and other lists for the tests of memory.
func argumentLists() [][]int {
	return [][]int{nil, {}, {0}, {1}, {0, 1}, {1, 0}, {0, 1, 2}, {4, 3, 1}, {2, 2, 2}, {1, 1}, {8}, {8, 1}, {1, 2}, {-1, 9, 0}, repeated(1, 8), repeated(1, 9)}
}

func TestDegreesLeaveArgumentsAlone(t *testing.T) {
	for _, in := range argumentTables() {
		for i, list := range argumentLists() {
			for k, first := range argumentLists() {
				second := argumentLists()[(i+k)%len(argumentLists())]
				s := surround(in)
				columns, columnsMemory := withMargin(list)
				a, aMemory := withMargin(first)
				b, bMemory := withMargin(second)
				content := func() string { return s.content() + fmt.Sprint(columnsMemory, aMemory, bMemory) }
				before := content()
				results := resultsForDegrees(s.table, columns, a, b)
				if after := content(); after != before {
					t.Fatalf("the arguments\n%s\nbecame\n%s", before, after)
				}
				// The change of an argument changes no result, and no later call.
				shown := results.content()
				s.spoil()
				clear(columnsMemory)
				clear(aMemory)
				clear(bMemory)
				if now := results.content(); now != shown {
					t.Fatalf("the results\n%s\nbecame\n%s", shown, now)
				}
				if now := resultsForDegrees(in, list, first, second).content(); now != shown {
					t.Fatalf("the results\n%s\nof the same arguments became\n%s", shown, now)
				}
			}
		}
	}
}

// The change of a result, its unused capacity included, changes neither an argument nor another result.
func TestDegreeResultsAreNewMemory(t *testing.T) {
	for _, in := range append(argumentTables(), tableOf("z", 3, eightTriples)) {
		for _, list := range argumentLists() {
			s := surround(in)
			columns, memory := withMargin(list)
			content := func() string { return s.content() + fmt.Sprint(memory) }
			before := content()
			results := resultsForDegrees(s.table, columns, columns, []int{0, 1})
			others := resultsForDegrees(s.table, columns, columns, []int{0, 1})
			shown := others.content()
			if !results.disjoint() {
				t.Fatalf("two slices of the results for %v and %v share memory", show(in), list)
			}
			if after := content(); after != before {
				t.Fatalf("the change of a result changed the arguments\n%s\nto\n%s", before, after)
			}
			if now := others.content(); now != shown {
				t.Fatalf("the change of a result changed the other results\n%s\nto\n%s", shown, now)
			}
		}
	}
}

func TestDegreeSamplesAreAsNamed(t *testing.T) {
	// The numbers of partitions of 0 to 8.
	if got := len(degreeSequences()); got != 1+1+2+3+5+7+11+15+22 {
		t.Error("there are", got, "degree sequences")
	}
	for _, list := range notDegreeSequences() {
		if containsList(degreeSequences(), list) {
			t.Errorf("the sample %v is a degree sequence", list)
		}
	}
	for arity := 1; arity <= 3; arity++ {
		for _, columns := range badColumns(arity) {
			ascending := slices.IsSorted(columns) && len(slices.Compact(slices.Clone(columns))) == len(columns)
			if ascending && !slices.ContainsFunc(columns, func(column int) bool { return column < 0 || column >= arity }) {
				t.Errorf("the sample %v is valid for the arity %d", columns, arity)
			}
		}
	}
	for _, in := range sampledTables() {
		if !impl.IsValidTable(in) {
			t.Errorf("the sample %v is not valid", show(in))
		}
	}
}
