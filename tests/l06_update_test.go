package tests

import (
	"fmt"
	"math"
	"regexp"
	"slices"
	"strings"
	"testing"

	"loop.example/g01921/impl"
)

// Promise 3, as far as updates go: an accepted update can be undone by its inverse, and a rejected one changes nothing.
// Promise 2, as far as updates go: they can be parsed from their string format, and no other strings are accepted.

type update = impl.Update

func inserting(name string, row ...int) update {
	return update{Name: name, Insert: true, Row: row}
}

func deleting(name string, row ...int) update {
	return update{Name: name, Row: row}
}

// updatesOf returns one update for each word, which need not be a format of an update.
func updatesOf(words string) []update {
	var updates []update
	for _, word := range strings.Fields(words) {
		row := append(rowsOf(word[2:]), nil)[0]
		updates = append(updates, update{Name: word[1:2], Insert: word[0] == '+', Row: row})
	}
	return updates
}

func updateOf(word string) update {
	return updatesOf(word)[0]
}

// databaseFrom returns the valid database with this format.
func databaseFrom(format string) database {
	db, ok := referenceParseDatabase(format)
	if !ok {
		panic(format + " is no database")
	}
	return db
}

func inverted(u update) update {
	return update{Name: u.Name, Insert: !u.Insert, Row: u.Row}
}

func sameUpdate(a update, b update) bool {
	return a.Name == b.Name && a.Insert == b.Insert && slices.Equal(a.Row, b.Row)
}

func cloneUpdate(u update) update {
	return update{Name: strings.Clone(u.Name), Insert: u.Insert, Row: append([]int{}, u.Row...)}
}

func showUpdate(u update) string {
	return fmt.Sprintf("{%+q %v %v}", u.Name, u.Insert, u.Row)
}

// referenceApply applies the update to a valid database.
func referenceApply(db database, u update) (database, bool) {
	at := slices.IndexFunc(db.Tables, func(t table) bool { return t.Name == u.Name })
	if at < 0 {
		return db, false
	}
	rows := cloneTable(db.Tables[at]).Rows
	found := slices.IndexFunc(rows, func(row []int) bool { return slices.Equal(row, u.Row) })
	if u.Insert == (found >= 0) {
		return db, false
	}
	if !u.Insert {
		return with(db, at, table{Name: u.Name, Arity: db.Tables[at].Arity, Rows: slices.Delete(rows, found, found+1)}), true
	}
	if len(rows) == 8 || len(u.Row) != db.Tables[at].Arity || slices.ContainsFunc(u.Row, func(n int) bool { return n < 0 || n > 9 }) {
		return db, false
	}
	rows = append(rows, u.Row)
	slices.SortFunc(rows, slices.Compare[[]int])
	return with(db, at, table{Name: u.Name, Arity: db.Tables[at].Arity, Rows: rows}), true
}

// referenceApplyAll applies the updates to a valid database up to the first one that is refused.
func referenceApplyAll(db database, updates []update) (database, int) {
	for i, u := range updates {
		next, ok := referenceApply(db, u)
		if !ok {
			return db, i
		}
		db = next
	}
	return db, len(updates)
}

func expectApplied(t *testing.T, db database, u update, want database, wantOK bool) {
	t.Helper()
	got, ok := impl.ApplyUpdate(db, u)
	if !sameDatabase(got, want) || ok != wantOK {
		t.Errorf("ApplyUpdate(%v, %v) = %v, %v, want %v, %v", showDatabase(db), showUpdate(u), showDatabase(got), ok, showDatabase(want), wantOK)
	}
	if valid := impl.IsValidUpdate(db, u); valid != wantOK {
		t.Errorf("IsValidUpdate(%v, %v) = %v", showDatabase(db), showUpdate(u), valid)
	}
}

// expectRefused expects that the update changes nothing, alone or as the first one of a list.
func expectRefused(t *testing.T, db database, u update) {
	t.Helper()
	expectApplied(t, db, u, db, false)
	expectAllApplied(t, db, []update{u}, db, 0)
}

func expectAllApplied(t *testing.T, db database, updates []update, want database, wantCount int) {
	t.Helper()
	got, count := impl.ApplyUpdates(db, updates)
	if !sameDatabase(got, want) || count != wantCount {
		t.Errorf("ApplyUpdates(%v, %d updates) = %v, %d, want %v, %d", showDatabase(db), len(updates), showDatabase(got), count, showDatabase(want), wantCount)
	}
}

func expectUpdate(t *testing.T, what string, got update, gotOK bool, want update, wantOK bool) {
	t.Helper()
	if !sameUpdate(got, want) || gotOK != wantOK {
		t.Errorf("%s = %v, %v, want %v, %v", what, showUpdate(got), gotOK, showUpdate(want), wantOK)
	}
}

func expectParsedUpdate(t *testing.T, s string, want update, wantOK bool) {
	t.Helper()
	got, ok := impl.ParseUpdate(s)
	expectUpdate(t, fmt.Sprintf("ParseUpdate(%q)", s), got, ok, want, wantOK)
}

// expectUndone expects that the update is accepted and that its inverse, and nothing less, undoes it.
func expectUndone(t *testing.T, db database, u update) {
	t.Helper()
	after, ok := impl.ApplyUpdate(db, u)
	if !ok || sameDatabase(after, db) {
		t.Errorf("ApplyUpdate(%v, %v) = %v, %v", showDatabase(db), showUpdate(u), showDatabase(after), ok)
	}
	if !impl.IsValidDatabase(after) {
		t.Errorf("%v is invalid", showDatabase(after))
	}
	difference := impl.CountRows(after) - impl.CountRows(db)
	if difference != 1 && u.Insert || difference != -1 && !u.Insert {
		t.Errorf("%v changed the number of rows by %d", showUpdate(u), difference)
	}
	expectRefused(t, after, u)
	expectApplied(t, after, impl.InvertUpdate(u), db, true)
	expectAllApplied(t, db, []update{u, impl.InvertUpdate(u)}, db, 2)
}

func TestApplyUpdateValues(t *testing.T) {
	for _, c := range []struct {
		from, update, to string
	}{
		{"r2:01", "+r00", "r2:00 01"},
		{"r2:00 01", "-r00", "r2:01"},
		{"r2:", "+r99", "r2:99"},
		{"r2:99", "-r99", "r2:"},
		{"r2:01 10", "+r05", "r2:01 05 10"},
		{"r2:01 10", "+r11", "r2:01 10 11"},
		{"r2:01 05 10", "-r05", "r2:01 10"},
		{"a1:", "+a0", "a1:0"},
		{"z3:000", "+z999", "z3:000 999"},
		{"z3:000 999", "-z000", "z3:999"},
		{"a1:0 1;r2:01;s1:3", "+a2", "a1:0 1 2;r2:01;s1:3"},
		{"a1:0 1;r2:01;s1:3", "+r10", "a1:0 1;r2:01 10;s1:3"},
		{"a1:0 1;r2:01;s1:3", "-s3", "a1:0 1;r2:01;s1:"},
		{"r2:01;s2:01;t2:01", "-s01", "r2:01;s2:;t2:01"},
		{"r2:01;s2:;t2:01", "+s01", "r2:01;s2:01;t2:01"},
		{"a1:;b1:;c1:;d1:;e1:;f1:", "+f9", "a1:;b1:;c1:;d1:;e1:;f1:9"},
	} {
		expectApplied(t, databaseFrom(c.from), updateOf(c.update), databaseFrom(c.to), true)
		expectUndone(t, databaseFrom(c.from), updateOf(c.update))
	}
}

// The deletion of a row that does not exist is refused and changes nothing.
func TestDeletionOfMissingRow(t *testing.T) {
	for format, words := range map[string]string{
		"":                 "-r01 -r -a0",
		"r2:":              "-r00 -r01 -r99 -r0 -r000 -r -s01",
		"r2:01":            "-r00 -r10 -r02 -r11 -r0 -r1 -r011 -r010 -r001 -r0101 -r -s01 -a01",
		"r2:01 10":         "-r00 -r11 -r05 -r0110",
		"r1:0 1 2":         "-r3 -r9 -r01 -r012 -r00 -r",
		"q3:012 999":       "-q01 -q12 -q0129 -q998 -q99 -q",
		"r2:01;s2:10;t2:":  "-r10 -s01 -t01 -t10 -q01 -u10",
		"a1:0 1;r2:01":     "-a2 -a01 -r0 -r1 -z0",
		"r1:" + eightRows:  "-r8 -r9 -r01 -r01234567",
		"r2:" + eightPairs: "-r02 -r54 -r56 -r97",
	} {
		db := databaseFrom(format)
		for _, u := range updatesOf(words) {
			expectRefused(t, db, u)
			// An update that follows is not applied, even if it would be accepted.
			expectAllApplied(t, db, append([]update{u}, updatesOf("+r44 +r4 +q444 +a4")...), db, 0)
		}
	}
	for _, row := range badRows() {
		expectRefused(t, databaseFrom("r2:01 10"), deleting("r", row...))
		expectRefused(t, databaseFrom("r2:"), deleting("r", row...))
	}
	// A row can be deleted once.
	expectAllApplied(t, databaseFrom("r2:01 10"), updatesOf("-r01 -r01 -r10"), databaseFrom("r2:10"), 1)
	expectAllApplied(t, databaseFrom("r2:01 10"), updatesOf("-r01 +r01 -r01 -r01"), databaseFrom("r2:10"), 3)
}

// A row that the table contains is not inserted again.
func TestInsertionOfExistingRow(t *testing.T) {
	for _, db := range validDatabases() {
		for _, in := range db.Tables {
			for _, row := range in.Rows {
				expectRefused(t, db, inserting(in.Name, row...))
			}
		}
	}
	expectAllApplied(t, databaseFrom("r2:01"), updatesOf("+r10 +r10 +r00"), databaseFrom("r2:01 10"), 1)
}

// An eighth row is accepted, a ninth one is not. A full table still accepts deletions.
func TestUpdatesOfFullTable(t *testing.T) {
	full := databaseFrom("q1:0;r1:" + eightRows + ";s1:0")
	seven := databaseFrom("q1:0;r1:0 1 2 3 4 5 6;s1:0")
	expectApplied(t, seven, inserting("r", 7), full, true)
	for value := range 10 {
		expectRefused(t, full, inserting("r", value))
		if value < 8 {
			expectUndone(t, full, deleting("r", value))
		} else {
			expectRefused(t, full, deleting("r", value))
			expectAllApplied(t, full, []update{deleting("r", 3), inserting("r", value), inserting("r", 3)}, databaseFrom(fmt.Sprintf("q1:0;r1:0 1 2 4 5 6 7 %d;s1:0", value)), 2)
		}
	}
	for format, words := range map[string]string{
		"r2:" + eightPairs: "+r02 +r09 +r91 +r97", "r3:" + eightTriples: "+r002 +r998 +r991 +r124", "a1:;r1:1 2 3 4 5 6 7 8": "+r0 +r9",
	} {
		for _, u := range updatesOf(words) {
			expectRefused(t, databaseFrom(format), u)
		}
	}
	expectAllApplied(t, databaseFrom("r1:"), updatesOf("+r9 +r8 +r7 +r6 +r5 +r4 +r3 +r2 +r1 +r0"), databaseFrom("r1:2 3 4 5 6 7 8 9"), 8)
	for _, in := range fullDatabase().Tables {
		expectRefused(t, fullDatabase(), inserting(in.Name, 0, 0, 2))
		expectUndone(t, fullDatabase(), deleting(in.Name, 1, 2, 3))
	}
}

// The values and lengths of a row beyond the limits are refused, those at the limits are not.
func TestRowsOfUpdates(t *testing.T) {
	for arity := 1; arity <= 3; arity++ {
		db := databaseOf(table{Name: "r", Arity: arity})
		for length := range 6 {
			for _, value := range []int{0, 9} {
				u := inserting("r", slices.Repeat([]int{value}, length)...)
				if length == arity {
					expectUndone(t, db, u)
				} else {
					expectRefused(t, db, u)
				}
				expectRefused(t, db, inverted(u))
			}
		}
		for at := range arity {
			for _, value := range badValues() {
				row := make([]int, arity)
				row[at] = value
				expectRefused(t, db, inserting("r", row...))
				expectRefused(t, db, deleting("r", row...))
			}
		}
	}
	for _, row := range badRows() {
		expectRefused(t, databaseFrom("q1:;r2:01 10;s3:"), inserting("r", row...))
	}
	expectRefused(t, databaseFrom("r2:01"), inserting("r", make([]int, 1<<16)...))
	expectRefused(t, databaseFrom("r2:01"), deleting("r", make([]int, 1<<16)...))
}

func TestNamesOfUpdates(t *testing.T) {
	for _, names := range ascendingNames("abkrsyz") {
		for letter := byte('a'); letter <= 'z'; letter++ {
			if name := string([]byte{letter}); !strings.Contains(names, name) {
				for arity := 1; arity <= 3; arity++ {
					expectRefused(t, named(names), inserting(name, slices.Repeat([]int{5}, arity)...))
					expectRefused(t, named(names), deleting(name, slices.Repeat([]int{0}, arity)...))
				}
			}
		}
	}
	// Each table would accept these updates under its own name.
	same := databaseFrom("a2:01;f2:01;m2:01;r2:01;s2:01;z2:01")
	for _, name := range append(badNames(), "af", "RS", "r2", "ra", "sr", "za") {
		for _, db := range []database{{}, databaseFrom("r2:01"), same, named(sixNames)} {
			expectRefused(t, db, inserting(name, 4, 4))
			expectRefused(t, db, deleting(name, 0, 1))
		}
	}
	for _, in := range same.Tables {
		expectUndone(t, same, inserting(in.Name, 4, 4))
		expectUndone(t, same, deleting(in.Name, 0, 1))
	}
	expectRefused(t, database{}, update{})
	expectRefused(t, named(sixNames), update{})
	expectRefused(t, named(sixNames), update{Insert: true})
}

// An invalid database is returned unchanged, even where the update would make it valid.
func TestUpdatesOfInvalidDatabase(t *testing.T) {
	for _, invalid := range invalidDatabases() {
		names := []string{"", "a", "q", "r", "s", "z"}
		for _, in := range invalid.Tables {
			names = append(names, in.Name)
		}
		slices.Sort(names)
		for _, name := range slices.Compact(names) {
			for _, row := range rowsOf("0 01 44 012") {
				expectRefused(t, invalid, inserting(name, row...))
				expectRefused(t, invalid, deleting(name, row...))
			}
		}
		expectAllApplied(t, invalid, nil, invalid, 0)
	}
	nine := databaseOf(tableOf("r", 1, "0 1 2 3 4 5 6 7 8"))
	expectRefused(t, nine, deleting("r", 8))
	expectRefused(t, databaseOf(tableOf("r", 2, "01 01")), deleting("r", 0, 1))
	expectRefused(t, databaseOf(table{Name: "r", Arity: 1, Rows: [][]int{{10}}}), deleting("r", 10))
	expectRefused(t, with(named("ars"), 0, tableOf("a", 4, "")), inserting("r", 4, 4))
}

// rowsUpTo returns all rows of at most this many of the values.
func rowsUpTo(values string, maxLength int) [][]int {
	rows := [][]int{nil}
	for _, word := range stringsOver(values, maxLength)[1:] {
		rows = append(rows, rowsOf(word)...)
	}
	return rows
}

// Every update of small databases, against the reference. What is accepted is undone by the inverse.
func TestApplyUpdateAgainstReference(t *testing.T) {
	databases := []database{fullDatabase(), {}, databaseFrom("a1:;b2:;c3:"), databaseFrom("r1:0 1 2 3 5 7 9"), databaseFrom("r3:000 001 010 100 123 555 999")}
	for _, names := range []string{"r", "ar", "rs", "ars", "mrz", sixNames} {
		databases = append(databases, named(names))
	}
	for _, db := range databases {
		for _, name := range []string{"a", "b", "c", "m", "r", "s", "z"} {
			for _, row := range rowsUpTo("01259", 4) {
				for _, u := range []update{inserting(name, row...), deleting(name, row...)} {
					want, ok := referenceApply(db, u)
					expectApplied(t, db, u, want, ok)
					if ok {
						expectUndone(t, db, u)
					} else {
						expectRefused(t, db, u)
					}
				}
			}
		}
	}
}

// Each set of values of one column, with each update of it.
func TestUpdatesOfOneColumn(t *testing.T) {
	for set := range 1 << 9 {
		db := databaseOf(oneColumnTable(set))
		if len(db.Tables[0].Rows) > 8 {
			continue
		}
		for value := range 9 {
			if set>>value&1 == 1 {
				expectApplied(t, db, deleting("a", value), databaseOf(oneColumnTable(set&^(1<<value))), true)
				expectApplied(t, db, inserting("a", value), db, false)
				continue
			}
			expectApplied(t, db, deleting("a", value), db, false)
			if len(db.Tables[0].Rows) < 8 {
				expectApplied(t, db, inserting("a", value), databaseOf(oneColumnTable(set|1<<value)), true)
			} else {
				expectApplied(t, db, inserting("a", value), db, false)
			}
		}
	}
}

func TestApplyUpdatesValues(t *testing.T) {
	for _, c := range []struct {
		from, updates, to string
		count             int
	}{
		{"", "", "", 0},
		{"", "+r01", "", 0},
		{"r2:01", "", "r2:01", 0},
		{"r2:01", "+r00", "r2:00 01", 1},
		{"r2:01", "+r00 -r00", "r2:01", 2},
		{"r2:01", "+r00 -r11 -r00", "r2:00 01", 1},
		{"r2:01", "-r11 +r00", "r2:01", 0},
		{"r2:01", "+r00 -r01 +r11 -r00", "r2:11", 4},
		{"r2:01", "+r00 -r01 +r11 -r01", "r2:00 11", 3},
		{"r2:01", "-r01 -r01", "r2:", 1},
		{"r2:01", "+r10 +r1 +r11", "r2:01 10", 1},
		{"r2:01", "+r10 +s1 +r11", "r2:01 10", 1},
		{"r2:01;s1:3", "-s3 +s4 -r01 +s5", "r2:;s1:4 5", 4},
		{"r2:01;s1:3", "-s3 +s4 +s4 -r01 +s5", "r2:01;s1:4", 2},
		{"a1:;b1:;c1:;d1:;e1:;f1:", "+f1 +e2 +d3 +c4 +b5 +a6 +g7", "a1:6;b1:5;c1:4;d1:3;e1:2;f1:1", 6},
	} {
		expectAllApplied(t, databaseFrom(c.from), updatesOf(c.updates), databaseFrom(c.to), c.count)
	}
	many := slices.Repeat(updatesOf("+r00 -r00"), 500)
	expectAllApplied(t, databaseFrom("r2:01"), many, databaseFrom("r2:01"), 1000)
	expectAllApplied(t, databaseFrom("r2:01"), append(many, updatesOf("-r00 +r00")...), databaseFrom("r2:01"), 1000)
	expectAllApplied(t, databaseFrom("r2:01"), append(updatesOf("+r99"), many[:999]...), databaseFrom("r2:00 01 99"), 1000)
}

// Every short sequence of updates, against the reference. The inverses in reverse order undo what was applied.
func TestApplyUpdatesAgainstReference(t *testing.T) {
	words := strings.Fields("+r01 -r01 +r10 -s3 +s3 +s44 -q0")
	for _, from := range []string{"r2:01;s1:3", "r2:10;s1:", "r2:00 01 02 03 04 05 06;s1:3", ""} {
		db := databaseFrom(from)
		for _, letters := range stringsOver("0123456", 4) {
			var updates []update
			for _, letter := range letters {
				updates = append(updates, updateOf(words[letter-'0']))
			}
			want, count := referenceApplyAll(db, updates)
			expectAllApplied(t, db, updates, want, count)
			var undoing []update
			for _, u := range slices.Backward(updates[:count]) {
				undoing = append(undoing, impl.InvertUpdate(u))
			}
			expectAllApplied(t, want, undoing, db, count)
		}
	}
}

// arbitraryUpdates returns valid and invalid updates, no two of them equal.
func arbitraryUpdates() []update {
	var updates []update
	rows := append(rowsOf("0 1 9 00 01 10 99 000 012 999 0000"), nil, []int{-1}, []int{10}, []int{0, -1}, []int{256}, []int{1 << 32}, []int{math.MaxInt, math.MinInt}, make([]int, 100))
	for _, name := range []string{"", "a", "r", "s", "z", "R", "+", "0", "rs", "sr", "\x00", "\xff", "é", strings.Repeat("r", 300)} {
		for _, row := range rows {
			updates = append(updates, inserting(name, row...), deleting(name, row...))
		}
	}
	return updates
}

func TestInvertUpdate(t *testing.T) {
	for _, u := range arbitraryUpdates() {
		inverse := impl.InvertUpdate(u)
		expectUpdate(t, "InvertUpdate("+showUpdate(u)+")", inverse, true, inverted(u), true)
		expectUpdate(t, "InvertUpdate("+showUpdate(inverse)+")", impl.InvertUpdate(inverse), true, u, true)
	}
	expectUpdate(t, "InvertUpdate({})", impl.InvertUpdate(update{}), true, update{Insert: true}, true)
	expectUpdate(t, "InvertUpdate(+r00)", impl.InvertUpdate(inserting("r", 0, 0)), true, deleting("r", 0, 0), true)
	expectUpdate(t, "InvertUpdate(-r01)", impl.InvertUpdate(deleting("r", 0, 1)), true, inserting("r", 0, 1), true)
}

func TestEqualUpdates(t *testing.T) {
	updates := arbitraryUpdates()
	for i, a := range updates {
		for k, b := range updates {
			if got := impl.EqualUpdates(a, cloneUpdate(b)); got != (i == k) {
				t.Errorf("EqualUpdates(%v, %v) = %v", showUpdate(a), showUpdate(b), got)
			}
		}
	}
	if !impl.EqualUpdates(update{}, update{Row: []int{}}) || !impl.EqualUpdates(update{Row: []int{}}, update{}) {
		t.Error("a nil row does not equal an empty row")
	}
	if impl.EqualUpdates(update{}, update{Insert: true}) || impl.EqualUpdates(update{}, update{Name: "r"}) || impl.EqualUpdates(update{}, update{Row: []int{0}}) {
		t.Error("the zero value equals another update")
	}
}

func TestFormatUpdateValues(t *testing.T) {
	for _, c := range []struct {
		update update
		want   string
	}{
		{inserting("r", 0, 1), "+r01"},
		{deleting("r", 0, 1), "-r01"},
		{inserting("a", 0), "+a0"},
		{deleting("z", 9, 9, 9), "-z999"},
		{inserting("m", 0, 0, 0), "+m000"},
		{inserting("r", 1, 0), "+r10"},
		{deleting("s", 3), "-s3"},
		{inserting("r"), ""},
		{deleting("r"), ""},
		{update{Name: "r", Insert: true, Row: []int{}}, ""},
		{inserting("r", 0, 0, 0, 0), ""},
		{deleting("r", 0, 1, 2, 3), ""},
		{inserting("", 0, 1), ""},
		{inserting("rs", 0, 1), ""},
		{inserting("r", 10), ""},
		{inserting("r", -1), ""},
		{update{}, ""},
		{update{Insert: true}, ""},
	} {
		if got := impl.FormatUpdate(c.update); got != c.want {
			t.Errorf("FormatUpdate(%v) = %q, want %q", showUpdate(c.update), got, c.want)
		}
	}
}

func TestFormatUpdateRefuses(t *testing.T) {
	var invalid []update
	for _, name := range badNames() {
		invalid = append(invalid, inserting(name, 0, 1), deleting(name, 0, 1), inserting(name, 5), deleting(name, 0, 0, 0))
	}
	for length := 1; length <= 3; length++ {
		for at := range length {
			for _, value := range badValues() {
				row := make([]int, length)
				row[at] = value
				invalid = append(invalid, inserting("r", row...), deleting("r", row...))
			}
		}
	}
	for length := range 300 {
		if length < 1 || length > 3 {
			invalid = append(invalid, inserting("r", make([]int, length)...), deleting("r", make([]int, length)...))
		}
	}
	for _, u := range invalid {
		if got := impl.FormatUpdate(u); got != "" {
			t.Errorf("FormatUpdate(%v) = %q", showUpdate(u), got)
		}
	}
}

// Each format is that of exactly one update, and is parsed as this update.
func TestUpdateRoundTrip(t *testing.T) {
	seen := map[string]bool{}
	for letter := 'a'; letter <= 'z'; letter++ {
		for _, digits := range stringsOver("0123456789", 3)[1:] {
			for _, sign := range []string{"+", "-"} {
				u := update{Name: string(letter), Insert: sign == "+", Row: rowsOf(digits)[0]}
				s := impl.FormatUpdate(u)
				if s != sign+u.Name+digits || seen[s] {
					t.Errorf("FormatUpdate(%v) = %q", showUpdate(u), s)
				}
				seen[s] = true
				expectParsedUpdate(t, s, u, true)
			}
		}
	}
}

var updatePattern = regexp.MustCompile(`\A([+-])([a-z])([0-9]{1,3})\z`)

// expectReferenceUpdate expects that the string is accepted exactly if it matches the pattern.
func expectReferenceUpdate(t *testing.T, s string) {
	t.Helper()
	match := updatePattern.FindStringSubmatch(s)
	if match == nil {
		expectParsedUpdate(t, s, update{}, false)
		return
	}
	expectParsedUpdate(t, s, update{Name: match[2], Insert: match[1] == "+", Row: rowsOf(match[3])[0]}, true)
}

func TestParseUpdateLimits(t *testing.T) {
	expectParsedUpdate(t, "+r01", inserting("r", 0, 1), true)
	expectParsedUpdate(t, "-r01", deleting("r", 0, 1), true)
	expectParsedUpdate(t, "+r", update{}, false)
	expectParsedUpdate(t, "-r", update{}, false)
	expectParsedUpdate(t, "+a0", inserting("a", 0), true)
	expectParsedUpdate(t, "-z999", deleting("z", 9, 9, 9), true)
	expectParsedUpdate(t, "+z000", inserting("z", 0, 0, 0), true)
	expectParsedUpdate(t, "+z0000", update{}, false)
	expectParsedUpdate(t, "-z9999", update{}, false)
	expectParsedUpdate(t, "+r"+strings.Repeat("0", 1<<16), update{}, false)
	expectParsedUpdate(t, strings.Repeat("+r01", 1<<14), update{}, false)
}

func TestParseUpdateRejects(t *testing.T) {
	for _, s := range []string{
		"", "+", "-", "r", "0", "+-", "r01", "01", "+01", "-01", "++r01", "+-r01", "--r01", "+rr01", "+rs1", "+r+1", "+r-1", "-r-1", " +r01", "+ r01", "+r 01",
		"+r0 1", "+r01 ", "+r01\n", "\n+r01", "+r01\x00", "+\x0001", "*r01", "=r01", "/r01", ",r01", ".r01", "+R01", "-Z9", "+`0", "+{0", "+r/", "+r:", "+r0a", "+ra",
		"+r\x00", "+r\x01", "+r\xb0", "+r0\xb1", "+é", "+é0", "+r１", "＋r01", "−r01", "\x00r01", "\xabr01", "+r0,1", "+r(01)", "+r2:01", "r2:01", "+r01 +r10", "+r01;+r10",
	} {
		if updatePattern.MatchString(s) {
			t.Errorf("the sample %q is a format", s)
		}
		expectParsedUpdate(t, s, update{}, false)
	}
}

// Each change of one byte is accepted exactly if the result is a format.
func TestParseUpdateBytes(t *testing.T) {
	for _, format := range []string{"+r0", "-a9", "+r01", "-z99", "+a012", "-z999"} {
		for _, s := range byteChanges(format) {
			expectReferenceUpdate(t, s)
		}
	}
}

// Every short string is accepted exactly if it is a format.
func TestParseUpdateAcceptsNothingElse(t *testing.T) {
	for _, s := range stringsOver(allBytes(), 2) {
		expectReferenceUpdate(t, s)
		expectReferenceUpdate(t, s+"5")
		expectReferenceUpdate(t, "+"+s)
		expectReferenceUpdate(t, "-r"+s)
	}
	for _, s := range stringsOver("+-,az`{09/:", 5) {
		expectReferenceUpdate(t, s)
	}
	for _, s := range stringsOver("+-r01 ", 7) {
		expectReferenceUpdate(t, s)
	}
}

// surroundedUpdates is a list of updates together with all memory around it, unused capacity included.
type surroundedUpdates struct {
	updates []update
	all     []update
	names   [][]byte
	rows    [][]int
}

func surroundUpdates(updates []update) surroundedUpdates {
	s := surroundedUpdates{all: []update{inserting("y", 4)}}
	for _, u := range updates {
		name, nameMemory := changeable(u.Name)
		row, rowMemory := withMargin(u.Row)
		s.all = append(s.all, update{Name: name, Insert: u.Insert, Row: row})
		s.names = append(s.names, nameMemory)
		s.rows = append(s.rows, rowMemory)
	}
	s.all = append(s.all, deleting("z", 3, 3), inserting("r", 4, 4), update{})
	s.updates = s.all[1 : 1+len(updates)]
	return s
}

// content shows everything in the memory.
func (s surroundedUpdates) content() string {
	shown := fmt.Sprintf("%q %v", s.names, s.rows)
	for _, u := range s.all {
		shown += showUpdate(u)
	}
	return shown
}

// spoil overwrites everything in the memory.
func (s surroundedUpdates) spoil() {
	for i := range s.names {
		clear(s.names[i])
		clear(s.rows[i])
	}
	for i := range s.all {
		s.all[i] = deleting("x", 6)
	}
}

// updateResults holds all results of the functions of the chapter.
type updateResults struct {
	databaseResults
	updates []update
}

func resultsForUpdates(db database, updates []update, s string) *updateResults {
	var r updateResults
	answer := func(answers ...any) { r.answers = append(r.answers, fmt.Sprint(answers...)) }
	keep := func(db database, answers ...any) {
		answer(answers...)
		r.databases = append(r.databases, db)
	}
	for _, u := range updates {
		answer(impl.IsValidUpdate(db, u), impl.EqualUpdates(u, updates[0]), impl.EqualUpdates(updates[0], u))
		r.answers = append(r.answers, impl.FormatUpdate(u))
		changed, ok := impl.ApplyUpdate(db, u)
		keep(changed, ok)
		r.updates = append(r.updates, impl.InvertUpdate(u))
	}
	changed, count := impl.ApplyUpdates(db, updates)
	keep(changed, count)
	parsed, ok := impl.ParseUpdate(s)
	answer(ok)
	r.updates = append(r.updates, parsed)
	return &r
}

// content shows all results.
func (r *updateResults) content() string {
	shown := r.databaseResults.content()
	for _, u := range r.updates {
		shown += " " + showUpdate(u)
	}
	return shown
}

// disjoint reports whether no two slices of one result, and no two results, share memory. It overwrites the results.
func (r *updateResults) disjoint() bool {
	// The rows of the updates are compared with those of the databases as rows of one more table.
	rows := table{}
	for _, u := range r.updates {
		rows.Rows = append(rows.Rows, u.Row)
	}
	all := databaseResults{tables: []table{rows}, databases: r.databases}
	return all.disjoint()
}

func updateLists() [][]update {
	return [][]update{
		nil, updatesOf("+r44"), updatesOf("-r01"), updatesOf("+r44 -r44"), updatesOf("-r01 +r01"), updatesOf("-a0 +a0 +a5"), updatesOf("+r00 +s33 +r99 -r00 -r10"),
		updatesOf("-r77 +r55"), updatesOf("+r4 +r44 +r0123"), {{}}, {{Name: "rs", Row: []int{0, 1}}, inserting("r", -1, 10)}, updatesOf("+z222 +m111 -z222"),
	}
}

func updateFormats(i int) string {
	return []string{"+r01", "-z999", "", "+r", "+r0123", "*r01"}[i%6]
}

func TestUpdatesLeaveArgumentsAlone(t *testing.T) {
	for _, db := range argumentDatabases() {
		for i, updates := range updateLists() {
			format := updateFormats(i)
			a, b := surroundDatabase(db), surroundUpdates(updates)
			s, sMemory := changeable(format)
			content := func() string { return a.content() + b.content() + fmt.Sprint(sMemory) }
			before := content()
			results := resultsForUpdates(a.database, b.updates, s)
			if after := content(); after != before {
				t.Fatalf("the arguments\n%s\nbecame\n%s", before, after)
			}
			// The change of an argument changes no result, and no later call.
			shown := results.content()
			a.spoil()
			b.spoil()
			clear(sMemory)
			if now := results.content(); now != shown {
				t.Fatalf("the results\n%s\nbecame\n%s", shown, now)
			}
			again := resultsForUpdates(db, updates, format)
			if now := again.content(); now != shown {
				t.Fatalf("the results\n%s\nof the same arguments became\n%s", shown, now)
			}
		}
	}
}

// The change of a result, its unused capacity included, changes neither an argument nor another result.
func TestUpdateResultsAreNewMemory(t *testing.T) {
	for _, db := range argumentDatabases() {
		for i, updates := range updateLists() {
			a, b := surroundDatabase(db), surroundUpdates(updates)
			content := func() string { return a.content() + b.content() }
			before := content()
			results := resultsForUpdates(a.database, b.updates, updateFormats(i))
			others := resultsForUpdates(a.database, b.updates, updateFormats(i))
			shown := others.content()
			if !results.disjoint() {
				t.Fatalf("two slices of the results for %v and %v share memory", showDatabase(db), updates)
			}
			if after := content(); after != before {
				t.Fatalf("the change of a result changed the arguments\n%s\nto\n%s", before, after)
			}
			if now := others.content(); now != shown {
				t.Fatalf("the change of a result changed the other results\n%s\nto\n%s", shown, now)
			}
		}
	}
}

// Rows that updates and tables share in the arguments are not shared by a result.
func TestSharedUpdatesAreSeparated(t *testing.T) {
	memory := []int{0, 1, 0, 2, 2}
	rows := [][]int{memory[0:2], memory[2:4]}
	db := databaseOf(table{Name: "r", Arity: 2, Rows: rows}, table{Name: "s", Arity: 2, Rows: rows})
	for _, row := range [][]int{memory[3:5], memory[0:2], memory[1:3], memory[0:0]} {
		for _, insert := range []bool{false, true} {
			u := update{Name: "r", Insert: insert, Row: row}
			v := update{Name: "s", Insert: insert, Row: row}
			if !resultsForUpdates(db, []update{u, v, inverted(u), v}, "+r01").disjoint() {
				t.Errorf("two slices of the results for %v and %v share memory", showDatabase(db), showUpdate(u))
			}
			if !slices.Equal(memory, []int{0, 1, 0, 2, 2}) || !sameRows(rows, [][]int{{0, 1}, {0, 2}}) {
				t.Fatal("the change of a result changed an argument", memory, rows)
			}
		}
	}
}
