package tests

import (
	"fmt"
	"math"
	"regexp"
	"slices"
	"strings"
	"testing"

	"loop.example/g01921/impl"
)

// Promise 6: a functional or inclusion dependency holds exactly if there is no violation, and minimal keys are exactly the keys of which no part is a key.
// Promise 2, as far as dependencies and inclusions go: they can be parsed from their string formats, and no other strings are accepted.

type dependency = impl.Dependency

type inclusion = impl.Inclusion

// dependencyOf returns the dependency for a word such as u01>2, which need not be the format of a dependency.
func dependencyOf(word string) dependency {
	head, to, _ := strings.Cut(word, ">")
	return dependency{Name: head[:1], From: digitsIn(head[1:]), To: int(to[0] - '0')}
}

func dependenciesOf(words string) []dependency {
	var dependencies []dependency
	for _, word := range strings.Fields(words) {
		dependencies = append(dependencies, dependencyOf(word))
	}
	return dependencies
}

// inclusionOf returns the inclusion for a word such as r1<s0, which need not be the format of an inclusion.
func inclusionOf(word string) inclusion {
	return inclusion{Name: word[:1], Column: int(word[1] - '0'), Into: word[3:4], IntoColumn: int(word[4] - '0')}
}

func sameDependency(a dependency, b dependency) bool {
	return a.Name == b.Name && a.To == b.To && slices.Equal(a.From, b.From)
}

// showDependency returns the dependency in printable characters, whatever its name.
func showDependency(f dependency) string {
	return fmt.Sprintf("{%+q %v %d}", f.Name, f.From, f.To)
}

// showInclusion returns the inclusion in printable characters, whatever its names.
func showInclusion(x inclusion) string {
	return fmt.Sprintf("{%+q %d %+q %d}", x.Name, x.Column, x.Into, x.IntoColumn)
}

// dependencyEnds returns the formats, without the name, of all dependencies between the columns of a table of this arity.
func dependencyEnds(arity int) []string {
	ends := strings.Fields(">0 >1 1>0 0>1 >2 2>0 2>1 12>0 0>2 02>1 1>2 01>2")
	return ends[:[]int{0, 1, 4, 12}[arity]]
}

func dependenciesBetween(name string, arity int) []dependency {
	var dependencies []dependency
	for _, end := range dependencyEnds(arity) {
		dependencies = append(dependencies, dependencyOf(name+end))
	}
	return dependencies
}

// badColumnNumbers returns numbers that are no column of a table of this arity.
func badColumnNumbers(arity int) []int {
	return append(badVariables(), arity, arity+1, 3, -3, -arity, 64+arity, 1<<32+arity-1, math.MaxInt-1)
}

// badDependencies returns dependencies with columns that are not valid for a table of this arity.
func badDependencies(name string, arity int) []dependency {
	var dependencies []dependency
	for to := range arity {
		for _, from := range badColumns(arity) {
			dependencies = append(dependencies, dependency{Name: name, From: from, To: to})
		}
	}
	for _, from := range validColumns(arity) {
		// A column that determines itself.
		for _, to := range append(badColumnNumbers(arity), from...) {
			dependencies = append(dependencies, dependency{Name: name, From: from, To: to})
		}
	}
	return dependencies
}

// agreeing reports whether two rows have equal values in the columns.
func agreeing(a []int, b []int, columns []int) bool {
	return !slices.ContainsFunc(columns, func(column int) bool { return a[column] != b[column] })
}

// referenceViolation compares each row with each other one.
func referenceViolation(in table, f dependency) []int {
	var least []int
	for i, first := range in.Rows {
		for k, second := range in.Rows {
			violated := i < k && agreeing(first, second, f.From) && !agreeing(first, second, []int{f.To})
			if violated && (least == nil || slices.Compare([]int{k, i}, []int{least[1], least[0]}) < 0) {
				least = []int{i, k}
			}
		}
	}
	return least
}

// isClosed reports whether the set, which contains only columns from 0 to 2, contains To of every dependency of this name whose From it contains.
func isClosed(dependencies []dependency, name string, set []int) bool {
	return !slices.ContainsFunc(dependencies, func(f dependency) bool {
		return f.Name == name && 0 <= f.To && f.To <= 2 && isPart(f.From, set) && !slices.Contains(set, f.To)
	})
}

func isPart(part []int, set []int) bool {
	return !slices.ContainsFunc(part, func(number int) bool { return !slices.Contains(set, number) })
}

// referenceClosure returns the least set that is closed and contains the columns from 0 to 2. It is a part of all others, so that it comes first.
func referenceClosure(dependencies []dependency, name string, columns []int) []int {
	valid := slices.DeleteFunc(slices.Clone(columns), func(column int) bool { return column < 0 || column > 2 })
	for _, set := range validColumns(3) {
		if isPart(valid, set) && isClosed(dependencies, name, set) {
			return set
		}
	}
	panic("all columns are closed")
}

// referenceKeys returns all keys, and those of which no part is one.
func referenceKeys(dependencies []dependency, in table) ([][]int, [][]int) {
	var keys, minimal [][]int
	for _, columns := range validColumns(in.Arity) {
		if isPart([]int{0, 1, 2}[:in.Arity], referenceClosure(dependencies, in.Name, columns)) {
			keys = append(keys, columns)
		}
	}
	for _, key := range keys {
		parts := slices.DeleteFunc(slices.Clone(keys), func(part []int) bool { return !isPart(part, key) })
		if len(parts) == 1 {
			minimal = append(minimal, key)
		}
	}
	return keys, minimal
}

// referenceMissing returns the values of the inclusion's column that its other column lacks.
func referenceMissing(db database, x inclusion) []int {
	missing := map[int]bool{}
	for _, in := range db.Tables {
		for _, row := range in.Rows {
			if in.Name == x.Name {
				missing[row[x.Column]] = true
			}
		}
	}
	for _, in := range db.Tables {
		for _, row := range in.Rows {
			if in.Name == x.Into {
				delete(missing, row[x.IntoColumn])
			}
		}
	}
	var values []int
	for value := range missing {
		values = append(values, value)
	}
	slices.Sort(values)
	return values
}

// expectViolation expects that the dependency is valid, has this violation, and holds exactly if the violation is empty.
func expectViolation(t *testing.T, db database, f dependency, want []int) {
	t.Helper()
	valid, holds := impl.IsValidDependency(db, f), impl.DependencyHolds(db, f)
	if got := impl.DependencyViolation(db, f); !valid || !slices.Equal(got, want) || holds != (len(want) == 0) {
		t.Errorf("%v in %v: valid %v, violation %v, holds %v, want the violation %v", showDependency(f), showDatabase(db), valid, got, holds, want)
	}
}

func expectInvalidDependency(t *testing.T, db database, f dependency) {
	t.Helper()
	valid, holds := impl.IsValidDependency(db, f), impl.DependencyHolds(db, f)
	if got := impl.DependencyViolation(db, f); valid || len(got) != 0 || holds {
		t.Errorf("%v in %v: valid %v, violation %v, holds %v, but it is invalid", showDependency(f), showDatabase(db), valid, got, holds)
	}
}

// expectMissing expects that the inclusion is valid, lacks these values, and holds exactly if there are none.
func expectMissing(t *testing.T, db database, x inclusion, want []int) {
	t.Helper()
	valid, holds := impl.IsValidInclusion(db, x), impl.InclusionHolds(db, x)
	if got := impl.MissingValues(db, x); !valid || !slices.Equal(got, want) || holds != (len(want) == 0) {
		t.Errorf("%v in %v: valid %v, missing %v, holds %v, want %v missing", showInclusion(x), showDatabase(db), valid, got, holds, want)
	}
}

func expectInvalidInclusion(t *testing.T, db database, x inclusion) {
	t.Helper()
	valid, holds := impl.IsValidInclusion(db, x), impl.InclusionHolds(db, x)
	if got := impl.MissingValues(db, x); valid || len(got) != 0 || holds {
		t.Errorf("%v in %v: valid %v, missing %v, holds %v, but it is invalid", showInclusion(x), showDatabase(db), valid, got, holds)
	}
}

func expectClosure(t *testing.T, dependencies []dependency, name string, columns []int, want []int) {
	t.Helper()
	expectVariables(t, fmt.Sprintf("ColumnClosure(%v, %q, %v)", dependencies, name, columns), impl.ColumnClosure(dependencies, name, columns), want)
}

func expectKey(t *testing.T, dependencies []dependency, in table, columns []int, want bool) {
	t.Helper()
	if got := impl.IsKey(dependencies, in, columns); got != want {
		t.Errorf("IsKey(%v, %v, %v) = %v", dependencies, show(in), columns, got)
	}
}

// expectKeys expects these minimal keys of a valid table, and that the lists of columns that contain one are the keys.
func expectKeys(t *testing.T, dependencies []dependency, in table, want [][]int) {
	t.Helper()
	if got := impl.MinimalKeys(dependencies, in); !sameRows(got, want) {
		t.Errorf("MinimalKeys(%v, %v) = %v, want %v", dependencies, show(in), got, want)
	}
	for _, columns := range validColumns(in.Arity) {
		expectKey(t, dependencies, in, columns, slices.ContainsFunc(want, func(key []int) bool { return isPart(key, columns) }))
	}
}

// expectNoKeys expects the fixed results for an invalid table.
func expectNoKeys(t *testing.T, dependencies []dependency, invalid table) {
	t.Helper()
	if got := impl.MinimalKeys(dependencies, invalid); len(got) != 0 {
		t.Errorf("MinimalKeys(%v, %v) = %v, but the table is invalid", dependencies, show(invalid), got)
	}
	for _, columns := range validColumns(3) {
		expectKey(t, dependencies, invalid, columns, false)
	}
}

func TestConstraintLimits(t *testing.T) {
	if impl.MaxConstraints != 8 {
		t.Error("limit", impl.MaxConstraints)
	}
}

func TestDependencyViolationValues(t *testing.T) {
	for _, c := range []struct{ format, word, violation string }{
		{"r2:00 01 11;s2:00 20", "r0>1", "01"},
		{"r2:00 01 11;s2:00 20", "r1>0", "12"},
		{"r2:00 01 11;s2:00 20", "s0>1", ""},
		{"r2:00 01 11;s2:00 20", "s1>0", "01"},
		{"r2:", "r0>1", ""},
		{"r2:55", "r0>1", ""},
		{"r1:5", "r>0", ""},
		{"r1:5 6", "r>0", "01"},
		// The least second index, although another pair has a lesser first one.
		{"r2:00 10 11 13 95", "r0>1", "12"},
		{"r3:000 110 200 310", "r1>2", ""},
		{"r3:000 110 201 311", "r1>2", "02"},
		{"r3:000 010 111 211 212", "r0>1", "01"},
		{"r3:000 110 121 221 301", "r1>2", "04"},
		{"r3:009 110 119 901", "r1>2", "12"},
		// The least first index of the least second one.
		{"r3:000 100 201", "r1>2", "02"},
		{"r3:000 100 200 301", "r1>2", "03"},
		{"r3:000 100 200 301 402", "r1>2", "03"},
		{"r3:011 100 200 301 402", "r1>2", "13"},
		{"r2:03 13 23 33 43 53 63 74", "r>1", "07"},
		// Two columns determine the third one, although neither does.
		{"r3:000 011 101 110", "r01>2", ""},
		{"r3:000 011 101 110", "r0>2", "01"},
		{"r3:000 011 101 110", "r1>2", "02"},
		{"r3:000 011 101 110", "r02>1", ""},
		{"r3:000 011 101 110", "r12>0", ""},
		{"r3:000 001 011 012", "r01>2", "01"},
		{"r3:010 011 110", "r12>0", "02"},
		{"r3:020 030 121", "r02>1", "01"},
		{"a1:0;r3:000 011 101 110;z2:00 01", "z0>1", "01"},
		{"a1:0;r3:000 011 101 110;z2:00 01", "a>0", ""},
	} {
		expectViolation(t, databaseFrom(c.format), dependencyOf(c.word), digitsIn(c.violation))
	}
}

// The edge case: an empty left side. All rows agree in no columns, so that the right side is constant.
func TestEmptyLeftSide(t *testing.T) {
	for _, from := range [][]int{nil, {}, make([]int, 0, 5), digitsIn("120")[:0]} {
		for _, in := range sampledTables() {
			for to := range in.Arity {
				var want []int
				for k, row := range in.Rows {
					if want == nil && row[to] != in.Rows[0][to] {
						want = []int{0, k}
					}
				}
				expectViolation(t, databaseOf(in), dependency{Name: in.Name, From: from, To: to}, want)
			}
			expectInvalidDependency(t, databaseOf(in), dependency{Name: in.Name, From: from, To: in.Arity})
		}
		constant := []dependency{{Name: "r", From: from, To: 1}, {Name: "r", From: []int{1}, To: 2}}
		expectClosure(t, constant, "r", nil, []int{1, 2})
		expectClosure(t, constant, "r", []int{0}, []int{0, 1, 2})
		expectClosure(t, constant, "r", []int{7}, []int{1, 2})
		expectClosure(t, constant, "s", nil, nil)
		expectKeys(t, constant, tableOf("r", 3, "012 312"), [][]int{{0}})
		// Where all columns are constant, no column is a key.
		expectKeys(t, append(constant, dependency{Name: "r", From: from, To: 0}), tableOf("r", 3, "012"), [][]int{{}})
		expectKeys(t, []dependency{{Name: "r", From: from, To: 0}}, tableOf("r", 1, "5"), [][]int{{}})
		expectDependencyFormat(t, dependency{Name: "r", From: from, To: 2}, "r>2")
	}
	expectParsedDependency(t, "r>2", dependencyOf("r>2"), true)
	expectParsedDependency(t, ">2", dependency{}, false)
	// A list of no dependencies, and of no columns.
	expectClosure(t, nil, "r", nil, nil)
	expectClosure(t, []dependency{}, "r", []int{}, nil)
	expectKeys(t, nil, tableOf("r", 1, "5"), [][]int{{0}})
}

// Each table of two columns of three values, up to the limit of eight rows, and arbitrary tables of all arities.
func TestViolationsAgainstReference(t *testing.T) {
	tables := sampledTables()
	for _, body := range subsetsOf(wordsOfLength("049", 2))[:1<<9-1] {
		tables = append(tables, tableOf("r", 2, body))
	}
	for _, body := range subsetsOf(wordsOfLength("05", 3)) {
		tables = append(tables, tableOf("r", 3, body))
	}
	for _, in := range tables {
		for _, f := range dependenciesBetween(in.Name, in.Arity) {
			expectViolation(t, databaseOf(in), f, referenceViolation(in, f))
		}
	}
}

// A dependency holds exactly if there is one value of To for each group of From.
func TestDependenciesAgainstGroups(t *testing.T) {
	for _, in := range sampledTables() {
		for _, f := range dependenciesBetween(in.Name, in.Arity) {
			groups, _ := impl.GroupCounts(in, f.From)
			pairs, _ := impl.GroupCounts(in, slices.Sorted(slices.Values(append(slices.Clone(f.From), f.To))))
			if holds := impl.DependencyHolds(databaseOf(in), f); holds != (len(groups) == len(pairs)) {
				t.Errorf("DependencyHolds(%v, %v) = %v", show(in), showDependency(f), holds)
			}
		}
	}
}

func TestDependenciesOfBadColumns(t *testing.T) {
	db := databaseFrom("a1:0 1;b2:00 01 10 11;c3:000 011 101 110 123;r1:;s2:;t3:")
	for _, in := range db.Tables {
		for _, f := range badDependencies(in.Name, in.Arity) {
			expectInvalidDependency(t, db, f)
		}
		for _, f := range dependenciesBetween(in.Name, 3) {
			if slices.Max(append(f.From, f.To)) >= in.Arity {
				expectInvalidDependency(t, db, f)
			} else {
				expectViolation(t, db, f, referenceViolation(in, f))
			}
		}
	}
}

func TestDependenciesWithoutTable(t *testing.T) {
	for _, db := range []database{{}, databaseFrom("q3:"), databaseFrom("q3:012;s3:012"), fullDatabase()} {
		for _, name := range append(badNames(), "x", "ab", "af", "qs") {
			for _, f := range dependenciesBetween("r", 3) {
				f.Name = name
				expectInvalidDependency(t, db, f)
			}
		}
	}
	for _, invalid := range invalidDatabases() {
		for _, in := range append(invalid.Tables, tableOf("a", 1, ""), tableOf("r", 1, "")) {
			expectInvalidDependency(t, invalid, dependency{Name: in.Name, To: 0})
			expectInvalidDependency(t, invalid, dependency{Name: in.Name, From: []int{0}, To: 1})
			expectInvalidInclusion(t, invalid, inclusion{Name: in.Name, Into: in.Name})
			expectInvalidInclusion(t, invalid, inclusion{Name: "r", Into: in.Name})
			expectInvalidInclusion(t, invalid, inclusion{Name: in.Name, Into: "r"})
		}
	}
}

func TestColumnClosureValues(t *testing.T) {
	for _, c := range []struct{ words, columns, want string }{
		{"u0>1 u1>2", "0", "012"},
		{"u0>1 u1>2", "1", "12"},
		{"u0>1 u1>2", "2", "2"},
		{"u0>1 u1>2", "", ""},
		{"u0>1 u1>2", "02", "012"},
		// In any order, so that more than one round is needed.
		{"u1>2 u0>1", "0", "012"},
		{"u1>0 u2>1 u>2", "", "012"},
		{"u12>0 u2>1 u>2", "", "012"},
		{"u2>1 u1>0", "2", "012"},
		{"u01>2", "0", "0"},
		{"u01>2", "1", "1"},
		{"u01>2", "01", "012"},
		{"u01>2", "12", "12"},
		{"u01>2 u0>1", "0", "012"},
		{"u0>2 u2>0", "2", "02"},
		{"u0>1 u1>2 u2>0", "1", "012"},
		{"u>1", "", "1"},
		{"u>1", "2", "12"},
		// Dependencies of other tables.
		{"v0>1 u1>2", "0", "0"},
		{"u0>1 v1>2", "0", "01"},
		{"v>0 w>1 u>2", "", "2"},
		{"U0>1 t0>1 v0>1", "0", "0"},
		// Columns and dependencies out of range are ignored, on either side.
		{"u0>1", "345", ""},
		{"u0>1", "03", "01"},
		{"u0>3 u3>1", "0", "0"},
		{"u3>1", "3", ""},
		{"u03>1 u0>2", "03", "02"},
		{"u9>1 u0>9", "09", "0"},
		// Columns in any order, and more than once.
		{"u0>1 u1>2", "20", "012"},
		{"u01>2", "10", "012"},
		{"u01>2", "0101", "012"},
		{"u0>1", "2200", "012"},
		{"", "21", "12"},
		{"", "210210", "012"},
		// From in any order, more than once, and with To.
		{"u10>2", "01", "012"},
		{"u00>2", "0", "02"},
		{"u101>2", "01", "012"},
		{"u101>2", "1", "1"},
		{"u0>0 u1>1", "0", "0"},
		{"u02>2", "0", "0"},
		{"u012>2", "01", "01"},
		{"u012>0", "012", "012"},
	} {
		expectClosure(t, dependenciesOf(c.words), "u", digitsIn(c.columns), digitsIn(c.want))
	}
}

// Each set of dependencies between three columns, in two orders, with each set of columns.
func TestClosuresAgainstReference(t *testing.T) {
	for _, words := range subsetsOf(dependencyEnds(3)) {
		var dependencies []dependency
		for _, end := range strings.Fields(words) {
			dependencies = append(dependencies, dependencyOf("u"+end))
		}
		backwards := slices.Clone(dependencies)
		slices.Reverse(backwards)
		for _, columns := range validColumns(3) {
			want := referenceClosure(dependencies, "u", columns)
			expectClosure(t, dependencies, "u", columns, want)
			expectClosure(t, backwards, "u", columns, want)
		}
		for arity := 1; arity <= 3; arity++ {
			_, minimal := referenceKeys(dependencies, table{Name: "u", Arity: arity})
			expectKeys(t, dependencies, table{Name: "u", Arity: arity}, minimal)
			expectKeys(t, backwards, table{Name: "u", Arity: arity}, minimal)
		}
	}
}

// Dependencies with columns out of range do not change a closure, and nor do columns out of range.
func TestClosuresIgnoreBadColumns(t *testing.T) {
	for _, words := range []string{"", "u0>1", "u0>1 u1>2", "u>2 u12>0", "u2>1 u1>0", "v0>1 u1>2"} {
		dependencies := dependenciesOf(words)
		for _, columns := range validColumns(3) {
			want := referenceClosure(dependencies, "u", columns)
			for _, bad := range badColumnNumbers(3) {
				more := slices.Concat([]dependency{
					{Name: "u", From: []int{bad}, To: 0}, {Name: "u", From: []int{0, bad}, To: 1}, {Name: "u", From: []int{bad, 1}, To: 2}, {Name: "u", To: bad}, {Name: "u", From: []int{0}, To: bad},
				}, dependencies)
				expectClosure(t, more, "u", columns, want)
				expectClosure(t, more, "u", append(slices.Clone(columns), bad), want)
				expectClosure(t, dependencies, "u", append([]int{bad, bad}, columns...), want)
			}
		}
	}
	for _, columns := range badColumns(3) {
		for _, words := range []string{"", "u1>2 u0>1", "u>0 u2>1"} {
			expectClosure(t, dependenciesOf(words), "u", columns, referenceClosure(dependenciesOf(words), "u", columns))
		}
		dependencies := []dependency{{Name: "u", From: columns, To: 2}, {Name: "u", From: columns, To: 0}}
		for _, given := range validColumns(3) {
			expectClosure(t, dependencies, "u", given, referenceClosure(dependencies, "u", given))
		}
	}
}

// A name need not be that of a table, and there may be more dependencies than MaxConstraints.
func TestClosuresOfAnyNames(t *testing.T) {
	for _, name := range append(badNames(), "a", "r", "z") {
		dependencies := []dependency{{Name: name, From: []int{0}, To: 2}, {Name: name + "x", To: 1}, {Name: "x" + name, To: 1}}
		expectClosure(t, dependencies, name, []int{0}, []int{0, 2})
		expectClosure(t, dependencies, name+"x", []int{0}, []int{0, 1})
		expectClosure(t, dependencies, name+"y", []int{0}, []int{0})
	}
	many := slices.Repeat(dependenciesOf("v0>1 u0>3 u12>0"), 300)
	expectClosure(t, many, "u", []int{2}, []int{2})
	expectClosure(t, append(many, dependenciesOf("u2>1")...), "u", []int{2}, []int{0, 1, 2})
	expectClosure(t, append(many, dependenciesOf("u2>1")...), "v", []int{0}, []int{0, 1})
	for count := range 12 {
		expectClosure(t, append(slices.Repeat(dependenciesOf("u0>1"), count), dependenciesOf("u1>2")...), "u", []int{1}, []int{1, 2})
	}
	expectClosure(t, dependenciesOf("u0>1"), "u", repeated(0, 300), []int{0, 1})
	expectClosure(t, []dependency{{Name: "u", From: repeated(0, 300), To: 1}}, "u", []int{0}, []int{0, 1})
}

// The closure contains exactly the columns that are determined in every table in which the dependencies hold. Two rows that agree in the closure show what is not determined.
func TestClosuresAgainstTables(t *testing.T) {
	for i, words := range subsetsOf(dependencyEnds(3)) {
		columns := validColumns(3)[i%8]
		var dependencies []dependency
		for _, end := range strings.Fields(words) {
			dependencies = append(dependencies, dependencyOf("u"+end))
		}
		closure := impl.ColumnClosure(dependencies, "u", columns)
		other := []int{1, 1, 1}
		for _, column := range closure {
			other[column] = 0
		}
		in, _ := impl.NewTable("u", 3, [][]int{{0, 0, 0}, other})
		for _, f := range dependencies {
			expectViolation(t, databaseOf(in), f, nil)
		}
		for to := range 3 {
			if !slices.Contains(columns, to) && impl.DependencyHolds(databaseOf(in), dependency{Name: "u", From: columns, To: to}) != slices.Contains(closure, to) {
				t.Errorf("by %v, %v determine %v, but not in %v", words, columns, closure, show(in))
			}
		}
	}
}

func TestKeyValues(t *testing.T) {
	for _, c := range []struct{ words, format, keys string }{
		{"", "u1:", "0"},
		{"", "u2:", "01"},
		{"", "u3:", "012"},
		{"u0>1 u1>2", "u3:012", "0"},
		{"u0>1 u1>2", "u2:01", "0"},
		{"u0>1 u1>2", "u1:0", "0"},
		{"u0>1 u1>2 u2>0", "u3:", "0 1 2"},
		{"u2>0 u1>2 u0>1", "u3:", "0 1 2"},
		{"u01>2 u2>0", "u3:", "01 12"},
		{"u01>2 u02>1 u12>0", "u3:", "01 02 12"},
		{"u12>0", "u3:", "12"},
		{"u02>1", "u3:", "02"},
		{"u01>2", "u3:", "01"},
		{"u0>1 u12>0", "u3:", "02 12"},
		{"u1>0 u02>1", "u3:", "02 12"},
		{"u2>0 u2>1 u01>2", "u3:", "01 2"},
		{"u2>1 u2>0 u0>2", "u3:", "0 2"},
		{"u>0", "u2:", "1"},
		{"u>0 u1>2", "u3:", "1"},
		// Only the dependencies of the table count.
		{"v0>1 v1>2", "u3:", "012"},
		{"v0>1 u1>2", "u3:012", "01"},
		{"u0>1 v1>2", "v3:", "01"},
		// A column that the table does not have may determine one that it has.
		{"u0>2 u2>1", "u2:00 01", "0"},
		{"u>2 u2>1", "u2:00 01", "0"},
		{"u2>0", "u2:00 01", "01"},
		{"u0>1 u3>0", "u2:00 01", "0"},
		{"u0>3 u3>1", "u2:00 01", "01"},
	} {
		expectKeys(t, dependenciesOf(c.words), databaseFrom(c.format).Tables[0], rowsOf(c.keys))
	}
}

// The rows of a table do not matter for its keys, but they must be valid.
func TestKeysOfAllTables(t *testing.T) {
	for i, in := range validTables() {
		var dependencies []dependency
		for k, end := range dependencyEnds(3) {
			if (i*37+i/12)>>k&1 == 1 {
				dependencies = append(dependencies, dependencyOf(in.Name+end))
			}
		}
		_, minimal := referenceKeys(dependencies, in)
		expectKeys(t, dependencies, in, minimal)
	}
	// For arities up to 62, the number of sets of columns is an int.
	for _, invalid := range append(invalidTables(), tableOf("r", 40, ""), tableOf("r", 62, "")) {
		expectNoKeys(t, nil, invalid)
		expectNoKeys(t, []dependency{{Name: invalid.Name, To: 0}, {Name: invalid.Name, To: 1}, {Name: invalid.Name, To: 2}}, invalid)
	}
}

func TestKeysOfBadColumns(t *testing.T) {
	all := dependenciesOf("u>0 u>1 u>2")
	for arity := 1; arity <= 3; arity++ {
		in := table{Name: "u", Arity: arity}
		for _, columns := range badColumns(arity) {
			expectKey(t, all, in, columns, false)
			expectKey(t, nil, in, columns, false)
		}
		for _, columns := range validColumns(arity) {
			expectKey(t, all, in, columns, true)
			expectKey(t, all, in, append(slices.Clone(columns), arity), false)
		}
	}
}

// With the dependencies that hold in a table, its keys are the columns in which no two rows agree.
func TestKeysAgainstRows(t *testing.T) {
	tables := sampledTables()
	for _, body := range subsetsOf(wordsOfLength("05", 3)) {
		tables = append(tables, tableOf("r", 3, body))
	}
	several := 0
	for _, in := range tables {
		var dependencies []dependency
		for _, f := range dependenciesBetween(in.Name, in.Arity) {
			if impl.DependencyHolds(databaseOf(in), f) {
				dependencies = append(dependencies, f)
			}
		}
		var minimal [][]int
		for _, columns := range validColumns(in.Arity) {
			unique := impl.MaxDegree(in, columns) <= 1
			if unique && !slices.ContainsFunc(minimal, func(key []int) bool { return isPart(key, columns) }) {
				minimal = append(minimal, columns)
			}
		}
		expectKeys(t, dependencies, in, minimal)
		if len(minimal) > 1 {
			several++
		}
	}
	if several < 50 {
		t.Error("only", several, "tables have several keys")
	}
}

func TestMissingValuesValues(t *testing.T) {
	for _, c := range []struct{ format, word, missing string }{
		{"r2:00 01 11;s2:00 20", "s0<r0", "2"},
		{"r2:00 01 11;s2:00 20", "s1<r0", ""},
		{"r2:00 01 11;s2:00 20", "r0<s0", "1"},
		{"r2:00 01 11;s2:00 20", "r1<s1", "1"},
		{"r2:00 01 11;s2:00 20", "s0<s1", "2"},
		{"r2:00 01 11;s2:00 20", "s1<s0", ""},
		{"r2:00 01 11;s2:00 20", "r1<r0", ""},
		{"r2:00 01 11;s2:00 20", "r0<r0", ""},
		// Values in ascending order of their own, not of the rows, and only once.
		{"a1:3;r2:09 15 23 37 49", "r1<a0", "579"},
		{"a1:3;r2:09 19 28 37 48", "r1<a0", "789"},
		{"a1:;r1:0 1 2 3 4 5 6 7", "r0<a0", "01234567"},
		{"a1:;r1:2 3 4 5 6 7 8 9", "r0<a0", "23456789"},
		{"a1:0 9;r3:005 195 905", "r2<a0", "5"},
		{"a1:0 9;r3:005 195 905", "r1<a0", ""},
		{"a1:0 9;r3:005 195 905", "r0<a0", "1"},
		{"a1:0 9;r3:005 195 905", "a0<r2", "09"},
		{"a1:0 9;r3:005 195 905", "a0<r0", ""},
		{"a1:0 9;r3:005 195 905", "r0<r2", "019"},
		{"a1:0 9;r3:005 195 905", "r2<r0", "5"},
		// Without rows, nothing is missing.
		{"a1:;r1:", "r0<a0", ""},
		{"a1:;r1:", "a0<a0", ""},
		{"a1:5;r1:", "r0<a0", ""},
		{"a1:5;r1:", "a0<r0", "5"},
	} {
		expectMissing(t, databaseFrom(c.format), inclusionOf(c.word), digitsIn(c.missing))
	}
}

// Each pair of columns of arbitrary tables, those of one table included.
func TestMissingValuesAgainstReference(t *testing.T) {
	databases := []database{fullDatabase(), named(sixNames), named("cdmrsz")}
	for db := range arbitraryJoins {
		databases = append(databases, db)
	}
	for i, db := range databases {
		for _, from := range db.Tables {
			into := db.Tables[i%len(db.Tables)]
			for column := range from.Arity {
				for intoColumn := range into.Arity {
					x := inclusion{Name: from.Name, Column: column, Into: into.Name, IntoColumn: intoColumn}
					expectMissing(t, db, x, referenceMissing(db, x))
				}
			}
		}
	}
}

// Tables of one column are sets of values.
func TestMissingValuesOfSets(t *testing.T) {
	for from := range 1 << 10 {
		for _, into := range []int{0, 1, 1 << 9, 0x155, 0x0f3, from >> 1, 1023 &^ from, from & 0x2d4} {
			db := databaseOf(oneColumnTable(from), oneColumnTable(into))
			db.Tables[1].Name = "b"
			x := inclusionOf("a0<b0")
			if !impl.IsValidDatabase(db) {
				expectInvalidInclusion(t, db, x)
				continue
			}
			missing := oneColumnTable(from &^ into)
			expectMissing(t, db, x, slices.Concat(missing.Rows...))
		}
	}
}

func TestInclusionsOfBadColumns(t *testing.T) {
	db := databaseFrom("a1:0;b2:00;c3:000;r1:;s2:;t3:")
	for _, from := range db.Tables {
		for _, into := range db.Tables {
			for column := range 4 {
				for intoColumn := range 4 {
					x := inclusion{Name: from.Name, Column: column, Into: into.Name, IntoColumn: intoColumn}
					if column < from.Arity && intoColumn < into.Arity {
						expectMissing(t, db, x, referenceMissing(db, x))
					} else {
						expectInvalidInclusion(t, db, x)
					}
				}
			}
			for _, bad := range badColumnNumbers(from.Arity) {
				expectInvalidInclusion(t, db, inclusion{Name: from.Name, Column: bad, Into: into.Name})
				expectInvalidInclusion(t, db, inclusion{Name: into.Name, Into: from.Name, IntoColumn: bad})
				expectInvalidInclusion(t, db, inclusion{Name: from.Name, Column: bad, Into: from.Name, IntoColumn: bad})
			}
		}
	}
}

func TestInclusionsWithoutTable(t *testing.T) {
	for _, name := range append(badNames(), "b", "q", "ab", "af", "AF") {
		expectInvalidInclusion(t, named(sixNames), inclusion{Name: name, Into: "r"})
		expectInvalidInclusion(t, named(sixNames), inclusion{Name: "r", Into: name})
		expectInvalidInclusion(t, named(sixNames), inclusion{Name: name, Into: name})
		expectInvalidInclusion(t, database{}, inclusion{Name: name, Into: name})
	}
	expectInvalidInclusion(t, database{}, inclusionOf("r0<r0"))
	expectInvalidInclusion(t, databaseFrom("r1:"), inclusionOf("r0<s0"))
	expectInvalidInclusion(t, databaseFrom("r1:"), inclusionOf("s0<r0"))
	expectMissing(t, databaseFrom("r1:"), inclusionOf("r0<r0"), nil)
}

func expectDependencyFormat(t *testing.T, f dependency, want string) {
	t.Helper()
	if got := impl.FormatDependency(f); got != want {
		t.Errorf("FormatDependency(%v) = %q, want %q", showDependency(f), got, want)
	}
}

func expectParsedDependency(t *testing.T, s string, want dependency, wantOK bool) {
	t.Helper()
	if got, ok := impl.ParseDependency(s); !sameDependency(got, want) || ok != wantOK {
		t.Errorf("ParseDependency(%q) = %v, %v, want %v, %v", s, showDependency(got), ok, showDependency(want), wantOK)
	}
}

// expectReferenceDependency expects that a string is accepted exactly if it is one letter and one of the twelve ends.
func expectReferenceDependency(t *testing.T, s string) {
	t.Helper()
	if len(s) > 0 && 'a' <= s[0] && s[0] <= 'z' && slices.Contains(dependencyEnds(3), s[1:]) {
		expectParsedDependency(t, s, dependencyOf(s), true)
	} else {
		expectParsedDependency(t, s, dependency{}, false)
	}
}

func TestFormatDependencyValues(t *testing.T) {
	for _, format := range []string{"u01>2", "u>0", "u>1", "u>2", "a0>1", "z1>0", "r02>1", "r12>0", "m2>0", "m2>1", "m0>2", "m1>2"} {
		expectDependencyFormat(t, dependencyOf(format), format)
	}
	for _, f := range append(badDependencies("u", 3), dependenciesOf("u3>0 u0>3 u10>2 u00>2 u01>1 u01>0 u012>0 u012>3 u03>1 u1>1 U0>1 {0>1 `0>1")...) {
		expectDependencyFormat(t, f, "")
	}
	for _, name := range badNames() {
		for _, f := range dependenciesBetween("u", 3) {
			f.Name = name
			expectDependencyFormat(t, f, "")
		}
	}
	expectDependencyFormat(t, dependency{}, "")
}

func TestDependencyRoundTrip(t *testing.T) {
	for letter := 'a'; letter <= 'z'; letter++ {
		for _, end := range dependencyEnds(3) {
			format := string(letter) + end
			expectDependencyFormat(t, dependencyOf(format), format)
			expectParsedDependency(t, format, dependencyOf(format), true)
		}
	}
}

func TestParseDependencyRejects(t *testing.T) {
	for _, s := range []string{
		"", "u", ">", "u>", ">2", "u2", "u01", "u012", "u0>", "0>1", "01>2", ">u2", "u0<1", "u0-1", "u0 1", "u0>1>2", "u0>>1", "u>0>1", "u>>1", "uu0>1", "uv>1",
		"u10>2", "u00>1", "u11>2", "u21>0", "u20>1", "u0>0", "u01>0", "u01>1", "u12>2", "u012>0", "u012>3", "u3>0", "u0>3", "u03>1", "u9>0", "u>9", "u0>12", "u0>01", "u>00",
		"u-1>0", "u0>-1", "u+0>1", "u0>+1", "u0,1>2", "u0 1>2", "u 0>1", "u0 >1", "u0> 1", " u0>1", "u0>1 ", "u0>1\n", "\nu0>1", "u0>1\x00", "U0>1", "é0>1", "u０>1", "u0＞1", "u0>１",
		"u\x00>\x01", "u/>0", "u:>0", "u0>/", "u0>:", "u\xb0>1", "u0>\xb1", "ua>1", "u0>b", "{0>1", "`0>1", "u0->1", "u0=>1", "r1<s0", "u01>2u01>2", "u01>22", "uu01>2",
		strings.Repeat("u", 1<<16) + ">0", "u" + strings.Repeat("0", 1<<16) + ">1", "u0>" + strings.Repeat("1", 1<<16), strings.Repeat(">", 1<<16),
	} {
		expectParsedDependency(t, s, dependency{}, false)
	}
}

// Each change of one byte is accepted exactly if the result is a format.
func TestParseDependencyBytes(t *testing.T) {
	for _, end := range dependencyEnds(3) {
		for _, name := range []string{"a", "u", "z"} {
			for _, s := range byteChanges(name + end) {
				expectReferenceDependency(t, s)
			}
		}
	}
}

// Every short string is accepted exactly if it is a format.
func TestParseDependencyAcceptsNothingElse(t *testing.T) {
	for _, s := range stringsOver(allBytes(), 2) {
		expectReferenceDependency(t, s)
		expectReferenceDependency(t, s+">1")
		expectReferenceDependency(t, "u0"+s)
	}
	for _, s := range stringsOver("0123>u", 6) {
		expectReferenceDependency(t, "u"+s)
	}
	for _, s := range stringsOver("az0129>< ", 5) {
		expectReferenceDependency(t, s)
	}
}

var inclusionPattern = regexp.MustCompile(`\A[a-z][0-2]<[a-z][0-2]\z`)

func expectInclusionFormat(t *testing.T, x inclusion, want string) {
	t.Helper()
	if got := impl.FormatInclusion(x); got != want {
		t.Errorf("FormatInclusion(%v) = %q, want %q", showInclusion(x), got, want)
	}
}

func expectParsedInclusion(t *testing.T, s string, want inclusion, wantOK bool) {
	t.Helper()
	if got, ok := impl.ParseInclusion(s); got != want || ok != wantOK {
		t.Errorf("ParseInclusion(%q) = %v, %v, want %v, %v", s, showInclusion(got), ok, showInclusion(want), wantOK)
	}
}

// expectReferenceInclusion expects that a string is accepted exactly if it matches the pattern.
func expectReferenceInclusion(t *testing.T, s string) {
	t.Helper()
	if inclusionPattern.MatchString(s) {
		expectParsedInclusion(t, s, inclusionOf(s), true)
	} else {
		expectParsedInclusion(t, s, inclusion{}, false)
	}
}

func TestFormatInclusionValues(t *testing.T) {
	for _, format := range []string{"r1<s0", "s0<r1", "a0<z2", "z2<a0", "r0<r0", "r2<r1", "m1<m1", "u2<v2"} {
		expectInclusionFormat(t, inclusionOf(format), format)
	}
	for _, bad := range badColumnNumbers(3) {
		for column := range 3 {
			expectInclusionFormat(t, inclusion{Name: "r", Column: bad, Into: "s", IntoColumn: column}, "")
			expectInclusionFormat(t, inclusion{Name: "r", Column: column, Into: "s", IntoColumn: bad}, "")
			expectInclusionFormat(t, inclusion{Name: "r", Column: bad, Into: "r", IntoColumn: bad}, "")
		}
	}
	for _, name := range badNames() {
		expectInclusionFormat(t, inclusion{Name: name, Column: 1, Into: "s"}, "")
		expectInclusionFormat(t, inclusion{Name: "r", Column: 1, Into: name}, "")
		expectInclusionFormat(t, inclusion{Name: name, Column: 1, Into: name}, "")
	}
	expectInclusionFormat(t, inclusion{}, "")
}

func TestInclusionRoundTrip(t *testing.T) {
	for name := 'a'; name <= 'z'; name++ {
		for into := 'a'; into <= 'z'; into++ {
			for columns := range 9 {
				x := inclusion{Name: string(name), Column: columns / 3, Into: string(into), IntoColumn: columns % 3}
				format := fmt.Sprintf("%s%d<%s%d", x.Name, x.Column, x.Into, x.IntoColumn)
				expectInclusionFormat(t, x, format)
				expectParsedInclusion(t, format, x, true)
			}
		}
	}
}

func TestParseInclusionRejects(t *testing.T) {
	for _, s := range []string{
		"", "r", "r1", "r1<", "r1<s", "<", "<s0", "1<s0", "r<s0", "r1s0", "r1<0", "r1>s0", "r1=s0", "r1 s0", "r1<<s0", "r1<s0<t0", "r1<s00", "r01<s0", "r1<s01", "rr1<s0", "r1<ss0",
		"r3<s0", "r1<s3", "r9<s9", "r-1<s0", "r1<s-1", "r1<-0", "R1<s0", "r1<S0", "{1<s0", "r1<`0", "11<s0", "r1<10", "rr<s0", "r1<ss", " r1<s0", "r1<s0 ", "r1 <s0", "r1< s0", "r1<s0\n",
		"\nr1<s", "r1<s\x00", "r\x01<s0", "r1\x00s0", "r/<s0", "r:<s0", "r1<s/", "r1<s:", "r1<é0", "é1<s0", "é<s0", "r1＜s0", "r１<s0", "r\xb1<s0", "r1<s\xb0", "u01>2", "r0>1", "r1<s0r1<s0",
		"s0>r1", "1r<s0", "r1<0s", "+r1<s", strings.Repeat("r1<s0", 1<<14), "r1<s" + strings.Repeat("0", 1<<16),
	} {
		expectParsedInclusion(t, s, inclusion{}, false)
	}
}

// Each change of one byte is accepted exactly if the result is a format.
func TestParseInclusionBytes(t *testing.T) {
	for _, format := range []string{"r1<s0", "a0<z2", "z2<a1", "m1<m1"} {
		for _, s := range byteChanges(format) {
			expectReferenceInclusion(t, s)
		}
	}
}

// Every short string is accepted exactly if it is a format.
func TestParseInclusionAcceptsNothingElse(t *testing.T) {
	for _, s := range stringsOver(allBytes(), 2) {
		expectReferenceInclusion(t, s)
		expectReferenceInclusion(t, s+"<r0")
		expectReferenceInclusion(t, "r0<"+s)
	}
	for _, s := range stringsOver("ru023<> ", 5) {
		expectReferenceInclusion(t, s)
	}
	for _, s := range stringsOver("r1<0", 6) {
		expectReferenceInclusion(t, s)
	}
}

// memory is what surrounds an argument of a call.
type memory interface {
	content() string
	spoil()
}

// results are those of all functions of a chapter.
type results interface {
	content() string
	disjoint() bool
}

type listMemory []int

func (l listMemory) content() string {
	return fmt.Sprint([]int(l))
}

func (l listMemory) spoil() {
	clear(l)
}

type textMemory []byte

func (s textMemory) content() string {
	return string(s)
}

func (s textMemory) spoil() {
	clear(s)
}

func contentOf(arguments []memory) string {
	content := ""
	for _, argument := range arguments {
		content += argument.content() + "\n"
	}
	return content
}

// expectLeftAlone expects that a call changes no argument, and that the change of the arguments changes no result. It returns the content of the results.
func expectLeftAlone(t *testing.T, call func() results, arguments ...memory) string {
	t.Helper()
	before := contentOf(arguments)
	got := call()
	if after := contentOf(arguments); after != before {
		t.Fatalf("the arguments\n%s\nbecame\n%s", before, after)
	}
	shown := got.content()
	for _, argument := range arguments {
		argument.spoil()
	}
	if now := got.content(); now != shown {
		t.Fatalf("the results\n%s\nbecame\n%s", shown, now)
	}
	return shown
}

// expectNewMemory expects that the change of the results of a call, unused capacity included, changes neither an argument nor the results of another call.
func expectNewMemory(t *testing.T, call func() results, arguments ...memory) {
	t.Helper()
	before := contentOf(arguments)
	got, others := call(), call()
	shown := others.content()
	if !got.disjoint() {
		t.Fatalf("two slices of the results for\n%s\nshare memory", before)
	}
	if after := contentOf(arguments); after != before {
		t.Fatalf("the change of a result changed the arguments\n%s\nto\n%s", before, after)
	}
	if now := others.content(); now != shown {
		t.Fatalf("the change of a result changed the other results\n%s\nto\n%s", shown, now)
	}
}

// surroundedDependencies is a list of dependencies together with all memory around it, unused capacity included.
type surroundedDependencies struct {
	dependencies []dependency
	all          []dependency
	parts        []memory
}

func surroundDependencies(dependencies []dependency) surroundedDependencies {
	s := surroundedDependencies{all: dependenciesOf("r0>1")}
	for _, f := range dependencies {
		name, nameMemory := changeable(f.Name)
		from, fromMemory := withMargin(f.From)
		s.all = append(s.all, dependency{Name: name, From: from, To: f.To})
		s.parts = append(s.parts, textMemory(nameMemory), listMemory(fromMemory))
	}
	s.all = append(s.all, dependenciesOf("r>0 r>1 r>2")...)
	s.dependencies = s.all[1 : 1+len(dependencies)]
	return s
}

// content shows everything in the memory.
func (s surroundedDependencies) content() string {
	return fmt.Sprint(s.all) + contentOf(s.parts)
}

// spoil overwrites everything in the memory.
func (s surroundedDependencies) spoil() {
	for _, part := range s.parts {
		part.spoil()
	}
	for i := range s.all {
		s.all[i] = dependencyOf("x2>1")
	}
}

// dependencyArguments are those of one call of every function of the chapter.
type dependencyArguments struct {
	db           database
	dependencies []dependency
	columns      []int
	x            inclusion
	text         string
}

// dependencyResults holds all results of the functions of the chapter. The strings are not copied, so that they show whether they are the argument's.
type dependencyResults struct {
	answers []string
	strings []string
	lists   [][]int
	keys    [][][]int
}

func resultsForDependencies(a dependencyArguments) results {
	var r dependencyResults
	answer := func(answers ...any) { r.answers = append(r.answers, fmt.Sprint(answers...)) }
	for _, f := range a.dependencies {
		answer(impl.IsValidDependency(a.db, f), impl.DependencyHolds(a.db, f))
		r.strings = append(r.strings, impl.FormatDependency(f))
		r.lists = append(r.lists, impl.DependencyViolation(a.db, f), impl.ColumnClosure(a.dependencies, f.Name, a.columns))
	}
	for _, in := range a.db.Tables {
		answer(impl.IsKey(a.dependencies, in, a.columns))
		r.keys = append(r.keys, impl.MinimalKeys(a.dependencies, in))
	}
	f, isDependency := impl.ParseDependency(a.text)
	x, isInclusion := impl.ParseInclusion(a.text)
	answer(impl.IsValidInclusion(a.db, a.x), impl.InclusionHolds(a.db, a.x), isDependency, f.To, isInclusion, x.Column, x.IntoColumn)
	r.strings = append(r.strings, impl.FormatInclusion(a.x), f.Name, x.Name, x.Into)
	r.lists = append(r.lists, impl.MissingValues(a.db, a.x), f.From)
	return &r
}

// content shows all results.
func (r *dependencyResults) content() string {
	return fmt.Sprintf("%q %q %v %v", r.answers, r.strings, r.lists, r.keys)
}

// disjoint reports whether no two slices of one result, and no two results, share memory. It overwrites the results.
func (r *dependencyResults) disjoint() bool {
	all := tableResults{lists: r.lists}
	for _, keys := range r.keys {
		all.tables = append(all.tables, table{Rows: keys})
	}
	return all.disjoint()
}

// argumentDependencies yields valid and invalid arguments for the tests of memory.
func argumentDependencies(yield func(a dependencyArguments) bool) {
	lists := []string{"", "r>0", "r0>1", "a1>0 r1>0 r0>1 a0>2", "r10>2 r2>0 r0>3", "z>2 z2>1 z1>0 r012>1", "q>0 a>0 m>2", "s0>1 s1>2 s1>0"}
	words := []string{"r0<s0", "s0<r0", "a0<r1", "r0<r1", "q0<r0", "a1<z2", "r9<x0"}
	texts := []string{"", "r0>1", "u01>2", "r>0", "r10>2", "r1<s0", "r1<s3", "z2<a0", "x"}
	databases := append(argumentDatabases(), databaseFrom("a3:012 345 355;r2:00 10 25 39;s1:3 4"), databaseFrom("r3:010 120 121;s1:;z3:"))
	for i, db := range databases {
		for k, list := range lists {
			for at, columns := range argumentLists() {
				a := dependencyArguments{db: db, dependencies: dependenciesOf(list), columns: columns, x: inclusionOf(words[(i+k+at)%len(words)]), text: texts[(k+at)%len(texts)]}
				if !yield(a) {
					return
				}
			}
		}
	}
}

// surroundDependencyArguments returns equal arguments, and the memory around them.
func surroundDependencyArguments(a dependencyArguments) (dependencyArguments, []memory) {
	db, dependencies := surroundDatabase(a.db), surroundDependencies(a.dependencies)
	columns, columnsMemory := withMargin(a.columns)
	name, nameMemory := changeable(a.x.Name)
	into, intoMemory := changeable(a.x.Into)
	text, textBytes := changeable(a.text)
	x := inclusion{Name: name, Column: a.x.Column, Into: into, IntoColumn: a.x.IntoColumn}
	surrounded := dependencyArguments{db: db.database, dependencies: dependencies.dependencies, columns: columns, x: x, text: text}
	return surrounded, []memory{db, dependencies, listMemory(columnsMemory), textMemory(nameMemory), textMemory(intoMemory), textMemory(textBytes)}
}

func TestDependenciesLeaveArgumentsAlone(t *testing.T) {
	for a := range argumentDependencies {
		surrounded, parts := surroundDependencyArguments(a)
		shown := expectLeftAlone(t, func() results { return resultsForDependencies(surrounded) }, parts...)
		// The change of the arguments changes no later call.
		if now := resultsForDependencies(a).content(); now != shown {
			t.Fatalf("the results\n%s\nof the same arguments became\n%s", shown, now)
		}
	}
}

func TestDependencyResultsAreNewMemory(t *testing.T) {
	for a := range argumentDependencies {
		surrounded, parts := surroundDependencyArguments(a)
		expectNewMemory(t, func() results { return resultsForDependencies(surrounded) }, parts...)
	}
}

// Lists that dependencies, rows and columns share in the arguments are not shared by a result.
func TestSharedListsAreSeparated(t *testing.T) {
	shared := []int{0, 1, 2}
	db := databaseOf(table{Name: "r", Arity: 3, Rows: [][]int{shared, {0, 1, 3}}}, table{Name: "s", Arity: 1, Rows: [][]int{shared[:1], shared[2:]}})
	dependencies := []dependency{{Name: "r", From: shared[:2], To: 2}, {Name: "r", From: shared[:1], To: 1}, {Name: "s", From: shared[:0], To: 0}, {Name: "r", From: shared[1:], To: 0}}
	for from := range 4 {
		for to := from; to <= 3; to++ {
			a := dependencyArguments{db: db, dependencies: dependencies, columns: shared[from:to], x: inclusionOf("r2<s0")}
			expectNewMemory(t, func() results { return resultsForDependencies(a) }, listMemory(shared))
		}
	}
}

func TestDependencySamplesAreAsNamed(t *testing.T) {
	for arity := 1; arity <= 3; arity++ {
		for _, f := range badDependencies("u", arity) {
			columns := append(slices.Clone(f.From), f.To)
			inRange := !slices.ContainsFunc(columns, func(column int) bool { return column < 0 || column >= arity })
			if inRange && containsList(validColumns(arity), f.From) && !slices.Contains(f.From, f.To) {
				t.Errorf("the sample %v is valid for the arity %d", showDependency(f), arity)
			}
		}
		for _, f := range dependenciesBetween("u", arity) {
			if columns := append(slices.Clone(f.From), f.To); slices.Max(columns) >= arity || slices.Contains(f.From, f.To) {
				t.Errorf("the sample %v is invalid for the arity %d", showDependency(f), arity)
			}
		}
		for _, column := range badColumnNumbers(arity) {
			if 0 <= column && column < arity {
				t.Errorf("the sample %d is a column for the arity %d", column, arity)
			}
		}
	}
	// Some arguments for the tests of memory have results in each of the lists.
	var violations, keys, missing int
	for a := range argumentDependencies {
		for _, f := range a.dependencies {
			violations += len(impl.DependencyViolation(a.db, f))
		}
		for _, in := range a.db.Tables {
			keys += len(impl.MinimalKeys(a.dependencies, in))
		}
		missing += len(impl.MissingValues(a.db, a.x))
	}
	if min(violations, keys, missing) < 100 {
		t.Error("the lists have", violations, keys, missing, "elements")
	}
}
