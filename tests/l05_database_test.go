package tests

import (
	"fmt"
	"slices"
	"strings"
	"testing"

	"loop.example/g01921/impl"
)

// Promise 2, as far as databases go: they can be parsed from their string format, and no other strings are accepted.

type database = impl.Database

func databaseOf(tables ...table) database {
	return database{Tables: tables}
}

// sampleTable returns a valid table for each letter. Arity and number of rows differ from letter to letter.
func sampleTable(letter byte) table {
	samples := []table{
		tableOf("", 1, "0 1"), tableOf("", 2, "01 10"), tableOf("", 3, "012"), tableOf("", 2, ""), tableOf("", 1, eightRows),
		tableOf("", 2, eightPairs), tableOf("", 3, eightTriples), tableOf("", 1, "9"), tableOf("", 3, ""), tableOf("", 2, "99"),
	}
	sample := samples[int(letter)%len(samples)]
	sample.Name = string([]byte{letter})
	return sample
}

// named returns the database of the sample tables with these names, in this order.
func named(names string) database {
	db := database{}
	for i := range len(names) {
		db.Tables = append(db.Tables, sampleTable(names[i]))
	}
	return db
}

// namesIn returns the names of the tables in order.
func namesIn(db database) string {
	names := ""
	for _, t := range db.Tables {
		names += t.Name
	}
	return names
}

func sameDatabase(a database, b database) bool {
	return slices.EqualFunc(a.Tables, b.Tables, sameTable)
}

// cloneDatabase returns a database that shares no memory with the argument.
func cloneDatabase(db database) database {
	var clone database
	for _, t := range db.Tables {
		clone.Tables = append(clone.Tables, cloneTable(t))
	}
	return clone
}

// with returns a copy of the database in which the table at the index is replaced.
func with(db database, at int, t table) database {
	changed := cloneDatabase(db)
	changed.Tables[at] = t
	return changed
}

func showDatabase(db database) string {
	tables := []string{}
	for _, t := range db.Tables {
		tables = append(tables, show(t))
	}
	return "[" + strings.Join(tables, "; ") + "]"
}

const sixNames = "afmrsz"

// ascendingNames returns all strictly ascending strings of at most six of the letters.
func ascendingNames(letters string) []string {
	var all []string
	for set := range 1 << len(letters) {
		names := ""
		for i := range len(letters) {
			if set>>i&1 == 1 {
				names += letters[i : i+1]
			}
		}
		if len(names) <= 6 {
			all = append(all, names)
		}
	}
	return all
}

// validDatabases returns databases of each number of tables, with each pair of names, and with tables up to the limits.
func validDatabases() []database {
	databases := []database{
		{}, {Tables: []table{}}, named("abcdef"), named("uvwxyz"), named(sixNames),
		databaseOf(tableOf("r", 2, "01"), tableOf("s", 1, "3")),
		databaseOf(tableOf("r", 2, "01 10"), tableOf("s", 2, "01 10"), tableOf("t", 2, "01 10")),
		databaseOf(tableOf("a", 1, ""), tableOf("b", 2, ""), tableOf("c", 3, ""), tableOf("d", 1, ""), tableOf("e", 2, ""), tableOf("f", 3, "")),
		fullDatabase(),
	}
	for _, names := range ascendingNames("abkrsyz") {
		databases = append(databases, named(names))
	}
	for a := byte('a'); a <= 'z'; a++ {
		databases = append(databases, named(string([]byte{a})))
		for b := a + 1; b <= 'z'; b++ {
			databases = append(databases, named(string([]byte{a, b})))
		}
	}
	return databases
}

// fullDatabase returns the greatest database: six tables of eight rows of three values.
func fullDatabase() database {
	var db database
	for _, letter := range sixNames {
		db.Tables = append(db.Tables, tableOf(string(letter), 3, eightTriples))
	}
	return db
}

// invalidDatabases returns databases that break one condition. Many contain a valid table r.
func invalidDatabases() []database {
	databases := []database{
		{Tables: make([]table, 1)}, {Tables: make([]table, 7)}, named("ba"), named("aa"), named("abcdefg"), named("tuvwxyz"),
		named("sr"), named("rr"), named("ras"), named("rsa"), named("rsr"), named("arr"), named("rrs"), named("zr"), named("arszt"),
		named("rsrs"), named("rstuvwx"), named("mnopqrs"), named("abcdefghijklmnopqrstuvwxyz"), named("afmrszz"), named("aafmrsz"),
		databaseOf(tableOf("r", 2, "01"), tableOf("r", 2, "01")), databaseOf(tableOf("r", 2, "01"), tableOf("r", 1, "5")),
		{Tables: slices.Repeat([]table{tableOf("r", 2, "01")}, 6)}, {Tables: slices.Repeat([]table{tableOf("r", 1, "")}, 40)},
	}
	for _, invalid := range invalidTables() {
		databases = append(databases, databaseOf(invalid))
		for at := range 3 {
			// The name is in order, where it is one letter.
			if len(invalid.Name) == 1 && 'a' <= invalid.Name[0] && invalid.Name[0] <= 'z' {
				invalid.Name = []string{"q", "r", "s"}[at]
			}
			databases = append(databases, with(named("qrs"), at, invalid))
		}
	}
	for at := range 6 {
		databases = append(databases, with(named(sixNames), at, tableOf(sixNames[at:at+1], 2, "10 01")))
		databases = append(databases, with(named(sixNames), at, tableOf(sixNames[at:at+1], 4, "")))
	}
	return databases
}

func expectDatabase(t *testing.T, what string, got database, gotOK bool, want database, wantOK bool) {
	t.Helper()
	if !sameDatabase(got, want) || gotOK != wantOK {
		t.Errorf("%s = %v, %v, want %v, %v", what, showDatabase(got), gotOK, showDatabase(want), wantOK)
	}
}

func expectLookup(t *testing.T, db database, name string, want table, wantOK bool) {
	t.Helper()
	got, ok := impl.LookupTable(db, name)
	expectTable(t, fmt.Sprintf("LookupTable(%v, %q)", showDatabase(db), name), got, ok, want, wantOK)
}

func expectSet(t *testing.T, db database, with table, want database, wantOK bool) {
	t.Helper()
	got, ok := impl.SetTable(db, with)
	expectDatabase(t, fmt.Sprintf("SetTable(%v, %v)", showDatabase(db), show(with)), got, ok, want, wantOK)
}

func expectRemoved(t *testing.T, db database, name string, want database, wantOK bool) {
	t.Helper()
	got, ok := impl.RemoveTable(db, name)
	expectDatabase(t, fmt.Sprintf("RemoveTable(%v, %q)", showDatabase(db), name), got, ok, want, wantOK)
}

func expectParsedDatabase(t *testing.T, s string, want database, wantOK bool) {
	t.Helper()
	got, ok := impl.ParseDatabase(s)
	expectDatabase(t, fmt.Sprintf("ParseDatabase(%q)", s), got, ok, want, wantOK)
}

func TestDatabaseLimits(t *testing.T) {
	if impl.MaxTables != 6 {
		t.Error("limit", impl.MaxTables)
	}
}

func TestIsValidDatabase(t *testing.T) {
	for _, valid := range validDatabases() {
		if !impl.IsValidDatabase(valid) {
			t.Errorf("IsValidDatabase(%v) = false", showDatabase(valid))
		}
	}
	for _, invalid := range invalidDatabases() {
		if impl.IsValidDatabase(invalid) {
			t.Errorf("IsValidDatabase(%v) = true", showDatabase(invalid))
		}
	}
}

// Every list of names is valid exactly if it is strictly ascending and has at most six names.
func TestDatabaseNames(t *testing.T) {
	for _, names := range stringsOver("abcdefg", 4) {
		db := named(names)
		want := true
		for i := range len(names) - 1 {
			want = want && names[i] < names[i+1]
		}
		if len(names) > 0 && impl.IsValidDatabase(db) != want {
			t.Errorf("IsValidDatabase(%v) = %v", showDatabase(db), !want)
		}
	}
	for length := range 20 {
		db := named("abcdefghijklmnopqrstuvwxyz"[:length])
		if impl.IsValidDatabase(db) != (length <= 6) {
			t.Errorf("a database of %d tables: %v", length, length > 6)
		}
	}
}

func TestLookupTable(t *testing.T) {
	for _, db := range validDatabases() {
		for letter := byte('a'); letter <= 'z'; letter++ {
			name := string([]byte{letter})
			at := strings.Index(namesIn(db), name)
			if at < 0 {
				expectLookup(t, db, name, table{}, false)
			} else {
				expectLookup(t, db, name, db.Tables[at], true)
			}
		}
	}
	for _, name := range badNames() {
		expectLookup(t, named(sixNames), name, table{}, false)
		expectLookup(t, database{}, name, table{}, false)
	}
	expectLookup(t, named(sixNames), "af", table{}, false)
	expectLookup(t, named(sixNames), "AFMRSZ", table{}, false)
}

// No table of an invalid database is found, not even a valid one.
func TestLookupInInvalidDatabase(t *testing.T) {
	for _, invalid := range invalidDatabases() {
		names := []string{"", "a", "q", "r", "s", "z"}
		for _, in := range invalid.Tables {
			names = append(names, in.Name)
		}
		for _, name := range names {
			expectLookup(t, invalid, name, table{}, false)
		}
	}
}

func TestSetTableValues(t *testing.T) {
	a, r, s, z := tableOf("a", 1, "0 1"), tableOf("r", 2, "01"), tableOf("s", 1, "3"), tableOf("z", 3, "")
	expectSet(t, database{}, r, databaseOf(r), true)
	expectSet(t, databaseOf(r), s, databaseOf(r, s), true)
	expectSet(t, databaseOf(s), r, databaseOf(r, s), true)
	expectSet(t, databaseOf(a, z), r, databaseOf(a, r, z), true)
	expectSet(t, databaseOf(a, r), z, databaseOf(a, r, z), true)
	expectSet(t, databaseOf(r), tableOf("r", 3, "012 345"), databaseOf(tableOf("r", 3, "012 345")), true)
	expectSet(t, databaseOf(a, r, s), tableOf("r", 2, ""), databaseOf(a, tableOf("r", 2, ""), s), true)
	expectSet(t, databaseOf(a, r, s), r, databaseOf(a, r, s), true)
}

// A table that sorts before all others becomes the first one, whether it is new or replaces the first one.
func TestSetTableBeforeAllOthers(t *testing.T) {
	a := tableOf("a", 3, "012 999")
	for _, names := range ascendingNames("bcmrsyz") {
		others := named(names)
		first := database{Tables: slices.Concat([]table{a}, others.Tables)}
		if len(names) == 6 {
			expectSet(t, others, a, others, false)
			continue
		}
		expectSet(t, others, a, first, true)
		expectSet(t, named("a"+names), a, first, true)
		expectLookup(t, first, "a", a, true)
		expectRemoved(t, first, "a", others, true)
		expectParsedDatabase(t, impl.FormatDatabase(first), first, true)
		if got := impl.FormatDatabase(first); !strings.HasPrefix(got, "a3:012 999") {
			t.Errorf("FormatDatabase(%v) = %q", showDatabase(first), got)
		}
	}
	b := tableOf("b", 1, "")
	expectSet(t, databaseOf(a), b, databaseOf(a, b), true)
	expectSet(t, databaseOf(b), a, databaseOf(a, b), true)
}

// A seventh table is refused, a replacement among six is not.
func TestSetSeventhTable(t *testing.T) {
	six := named("cgkosw")
	for letter := byte('a'); letter <= 'z'; letter++ {
		added := tableOf(string([]byte{letter}), 2, "55 66")
		at := strings.Index("cgkosw", added.Name)
		if at < 0 {
			expectSet(t, six, added, six, false)
		} else {
			expectSet(t, six, added, with(six, at, added), true)
		}
	}
	// Six tables can be set in any order.
	for step := 1; step <= 5; step += 4 {
		grown := database{}
		for i := range 6 {
			var ok bool
			if grown, ok = impl.SetTable(grown, six.Tables[i*step%6]); !ok || len(grown.Tables) != i+1 {
				t.Errorf("table %d: %v, %v", i, showDatabase(grown), ok)
			}
		}
		expectDatabase(t, "six tables", grown, true, six, true)
	}
}

// Setting and removal of every table, against sorted strings of names.
func TestTableChangesAgainstNames(t *testing.T) {
	const letters = "abgmrtyz"
	for _, names := range ascendingNames(letters) {
		db := named(names)
		for i := range len(letters) {
			added := letters[i : i+1]
			contained := strings.Contains(names, added)
			if without := strings.ReplaceAll(names, added, ""); contained {
				expectRemoved(t, db, added, named(without), true)
			} else {
				expectRemoved(t, db, added, db, false)
			}
			sorted := []byte(names)
			if !contained {
				sorted = append(sorted, added[0])
				slices.Sort(sorted)
			}
			want, canSet := named(string(sorted)), len(sorted) <= 6
			if !canSet {
				want = db
			}
			expectSet(t, db, sampleTable(added[0]), want, canSet)
		}
	}
}

func TestSetTableRefuses(t *testing.T) {
	for _, invalid := range invalidTables() {
		for _, db := range []database{{}, named("r"), named("as"), named("ars"), named(sixNames)} {
			expectSet(t, db, invalid, db, false)
		}
	}
	for _, invalid := range invalidDatabases() {
		for _, name := range []string{"a", "b", "q", "r", "s", "z"} {
			expectSet(t, invalid, tableOf(name, 2, "01 10"), invalid, false)
		}
	}
	// The table would replace the only one that is not valid.
	expectSet(t, with(named("ars"), 1, tableOf("r", 2, "10 01")), tableOf("r", 2, "01 10"), with(named("ars"), 1, tableOf("r", 2, "10 01")), false)
	expectSet(t, database{Tables: make([]table, 1)}, table{}, database{Tables: make([]table, 1)}, false)
}

func TestRemoveTable(t *testing.T) {
	expectRemoved(t, named("r"), "r", database{}, true)
	expectRemoved(t, named("ars"), "a", named("rs"), true)
	expectRemoved(t, named("ars"), "r", named("as"), true)
	expectRemoved(t, named("ars"), "s", named("ar"), true)
	expectRemoved(t, named("ars"), "q", named("ars"), false)
	expectRemoved(t, database{}, "r", database{}, false)
	for at := range 6 {
		name := sixNames[at : at+1]
		expectRemoved(t, named(sixNames), name, named(strings.ReplaceAll(sixNames, name, "")), true)
		expectRemoved(t, fullDatabase(), name, database{Tables: slices.Delete(fullDatabase().Tables, at, at+1)}, true)
	}
	for _, name := range append(badNames(), "af", "rs") {
		expectRemoved(t, named(sixNames), name, named(sixNames), false)
		expectRemoved(t, database{}, name, database{}, false)
	}
	for _, invalid := range invalidDatabases() {
		for _, name := range []string{"", "a", "q", "r", "s", "z"} {
			expectRemoved(t, invalid, name, invalid, false)
		}
		for _, in := range invalid.Tables {
			expectRemoved(t, invalid, in.Name, invalid, false)
		}
	}
}

func TestCountRows(t *testing.T) {
	for _, db := range validDatabases() {
		want := 0
		for _, in := range db.Tables {
			want += len(in.Rows)
		}
		if got := impl.CountRows(db); got != want {
			t.Errorf("CountRows(%v) = %d, want %d", showDatabase(db), got, want)
		}
	}
	for _, invalid := range invalidDatabases() {
		if got := impl.CountRows(invalid); got != 0 {
			t.Errorf("CountRows(%v) = %d, but the database is invalid", showDatabase(invalid), got)
		}
	}
	for _, c := range []struct {
		db   database
		want int
	}{
		{database{}, 0},
		{databaseOf(tableOf("r", 2, "")), 0},
		{databaseOf(tableOf("r", 2, "01 10")), 2},
		{databaseOf(tableOf("r", 2, "01"), tableOf("s", 1, "3")), 2},
		{fullDatabase(), 48},
		{database{Tables: append(fullDatabase().Tables, tableOf("zz", 1, ""))}, 0},
	} {
		if got := impl.CountRows(c.db); got != c.want {
			t.Errorf("CountRows(%v) = %d, want %d", showDatabase(c.db), got, c.want)
		}
	}
}

func TestEqualDatabasesValues(t *testing.T) {
	db := named("ars")
	others := []database{
		{}, named("ar"), named("as"), named("rs"), named("asr"), named("ras"), named("sra"), named("arsz"), named("arss"), named("aars"), named("art"),
	}
	for at, name := range []string{"a", "r", "s"} {
		in := db.Tables[at]
		more := append(cloneTable(in).Rows, slices.Repeat([]int{9}, in.Arity))
		others = append(others,
			with(db, at, table{}), with(db, at, tableOf(name, 2, "98")), with(db, at, table{Name: "x", Arity: in.Arity, Rows: in.Rows}),
			with(db, at, table{Name: in.Name, Arity: in.Arity + 1, Rows: in.Rows}), with(db, at, table{Name: in.Name, Arity: in.Arity, Rows: more}),
		)
	}
	for _, other := range others {
		if impl.EqualDatabases(db, other) || impl.EqualDatabases(other, db) {
			t.Errorf("%v equals %v", showDatabase(db), showDatabase(other))
		}
	}
	for _, c := range [][2]database{
		{{}, {Tables: []table{}}},
		{databaseOf(table{}), databaseOf(table{Rows: [][]int{}})},
		{databaseOf(tableOf("r", 2, "")), databaseOf(table{Name: "r", Arity: 2, Rows: [][]int{}})},
		{{Tables: make([]table, 9)}, {Tables: make([]table, 9)}},
	} {
		if !impl.EqualDatabases(c[0], c[1]) || !impl.EqualDatabases(c[1], c[0]) {
			t.Errorf("%v does not equal %v", showDatabase(c[0]), showDatabase(c[1]))
		}
	}
}

func TestEqualDatabasesAgainstReference(t *testing.T) {
	databases := slices.Concat(invalidDatabases()[:200], validDatabases()[:200])
	for _, a := range databases {
		if !impl.EqualDatabases(a, cloneDatabase(a)) {
			t.Errorf("%v does not equal its copy", showDatabase(a))
		}
		for _, b := range databases {
			if got := impl.EqualDatabases(a, b); got != sameDatabase(a, b) {
				t.Errorf("EqualDatabases(%v, %v) = %v", showDatabase(a), showDatabase(b), got)
			}
		}
	}
}

// referenceFormatDatabase formats a valid database.
func referenceFormatDatabase(db database) string {
	s := ""
	for i, t := range db.Tables {
		if i > 0 {
			s += ";"
		}
		s += referenceFormat(t)
	}
	return s
}

// referenceParseDatabase accepts the empty string and up to six formats of tables whose names are strictly ascending.
func referenceParseDatabase(s string) (database, bool) {
	if s == "" {
		return database{}, true
	}
	var db database
	for _, part := range strings.Split(s, ";") {
		t, ok := referenceParse(part)
		if !ok || len(db.Tables) == 6 {
			return database{}, false
		}
		if count := len(db.Tables); count > 0 && db.Tables[count-1].Name >= t.Name {
			return database{}, false
		}
		db.Tables = append(db.Tables, t)
	}
	return db, true
}

func expectReferenceDatabase(t *testing.T, s string) {
	t.Helper()
	want, wantOK := referenceParseDatabase(s)
	expectParsedDatabase(t, s, want, wantOK)
}

func TestFormatDatabaseValues(t *testing.T) {
	for _, c := range []struct {
		db   database
		want string
	}{
		{database{}, ""},
		{database{Tables: []table{}}, ""},
		{databaseOf(tableOf("r", 2, "")), "r2:"},
		{databaseOf(tableOf("r", 2, "01 10")), "r2:01 10"},
		{databaseOf(tableOf("r", 2, "01"), tableOf("s", 1, "3")), "r2:01;s1:3"},
		{databaseOf(tableOf("a", 1, "0 1"), tableOf("r", 2, "01"), tableOf("s", 1, "3")), "a1:0 1;r2:01;s1:3"},
		{databaseOf(tableOf("a", 1, ""), tableOf("y", 3, ""), tableOf("z", 2, "")), "a1:;y3:;z2:"},
		{named("uvwxyz"), "u1:9;v3:;w2:99;x1:0 1;y2:01 10;z3:012"},
	} {
		if got := impl.FormatDatabase(c.db); got != c.want {
			t.Errorf("FormatDatabase(%v) = %q, want %q", showDatabase(c.db), got, c.want)
		}
	}
	for _, invalid := range invalidDatabases() {
		if got := impl.FormatDatabase(invalid); got != "" {
			t.Errorf("FormatDatabase(%v) = %q, but the database is invalid", showDatabase(invalid), got)
		}
	}
}

func TestDatabaseRoundTrip(t *testing.T) {
	for _, valid := range validDatabases() {
		s := impl.FormatDatabase(valid)
		if want := referenceFormatDatabase(valid); s != want {
			t.Errorf("FormatDatabase(%v) = %q, want %q", showDatabase(valid), s, want)
		}
		expectParsedDatabase(t, s, valid, true)
		if want, ok := referenceParseDatabase(s); !ok || !sameDatabase(want, valid) {
			t.Errorf("the reference does not parse %q", s)
		}
	}
}

func TestParseDatabaseLimits(t *testing.T) {
	expectParsedDatabase(t, "", database{}, true)
	expectParsedDatabase(t, "r2:", databaseOf(tableOf("r", 2, "")), true)
	expectParsedDatabase(t, "r2:01;s1:3", databaseOf(tableOf("r", 2, "01"), tableOf("s", 1, "3")), true)
	expectParsedDatabase(t, "a1:0 1;r2:01;s1:3", databaseOf(tableOf("a", 1, "0 1"), tableOf("r", 2, "01"), tableOf("s", 1, "3")), true)
	longest := referenceFormatDatabase(fullDatabase())
	expectParsedDatabase(t, longest, fullDatabase(), true)
	expectParsedDatabase(t, longest+";", database{}, false)
	expectParsedDatabase(t, longest+" ", database{}, false)
	expectParsedDatabase(t, longest+"9", database{}, false)
	expectParsedDatabase(t, "a1:;b1:;c1:;d1:;e1:;f1:", databaseOf(tableOf("a", 1, ""), tableOf("b", 1, ""), tableOf("c", 1, ""), tableOf("d", 1, ""), tableOf("e", 1, ""), tableOf("f", 1, "")), true)
	expectParsedDatabase(t, "a1:;b1:;c1:;d1:;e1:;f1:;g1:", database{}, false)
	expectParsedDatabase(t, "a1:;b1:;c1:;d1:;e1:;f1:;g1:;h1:", database{}, false)
	expectParsedDatabase(t, "a1:;b1:;c1:;d1:;e1:;f1:;", database{}, false)
	expectParsedDatabase(t, "a1:;b1:;c1:;d1:;e1:;f1:;f1:", database{}, false)
	expectParsedDatabase(t, "r1:"+eightRows+" 8;s1:", database{}, false)
	expectParsedDatabase(t, "r1:;s1:"+eightRows+" 8", database{}, false)
	expectParsedDatabase(t, "r0:;s1:", database{}, false)
	expectParsedDatabase(t, "r1:;s4:", database{}, false)
	expectParsedDatabase(t, strings.Repeat(";", 1<<16), database{}, false)
	expectParsedDatabase(t, strings.Repeat("r2:01;", 1<<14)+"r2:01", database{}, false)
	expectParsedDatabase(t, "r2:01;"+strings.Repeat("s", 1<<16), database{}, false)
}

func TestParseDatabaseRejects(t *testing.T) {
	for _, s := range []string{
		";", ";;", " ", "r", "r2", ":", "2:01", "r2:01;", ";r2:01", "r2:01;;s1:3", ";;r2:01", "r2:01;;", "s1:3;r2:01", "r2:01;r2:01", "r2:01;r1:3", "r2:01;r2:",
		"a1:;r2:01;s1:3;r2:01", "r2:01;s1:3;a1:", "a1:;a1:;b1:", "r2:01; s1:3", "r2:01 ;s1:3", " r2:01;s1:3", "r2:01;s1:3 ", "r2:01, s1:3", "r2:01,s1:3",
		"r2:01:s1:3", "r2:01 s1:3", "r2:01\ns1:3", "r2:01\n", "r2:01;s1:3\n", "r2:01;\ns1:3", "r2:01;s1:3\x00", "\x00", "r2:01\x00;s1:3", "r2:10 01;s1:3",
		"r2:01;s1:3 1", "r2:01 01;s1:3", "r2:01;s1:3 3", "r2:0;s1:3", "r2:01;s1:31", "R2:01;s1:3", "r2:01;S1:3", "rs2:01", "r2:01;st1:3", "r2:01;1:3",
		"r2:01;s1", "r2:01;s:3", "r2:01;s1:x", "r02:01;s1:3", "r2:01;s01:3", "r2:01;é1:3", "r2:01；s1:3", "r2:01;s1:\xb3", "+r01", "r(XY)", "00", "r2:01;s1:3;0",
	} {
		if _, ok := referenceParseDatabase(s); ok {
			t.Errorf("the sample %q is a format", s)
		}
		expectParsedDatabase(t, s, database{}, false)
	}
}

// Each change of one byte is accepted exactly if the result is a format.
func TestParseDatabaseBytes(t *testing.T) {
	for _, format := range []string{
		"r2:", "r2:;s1:", "r2:01;s1:3", "a1:0 1;r2:01;s1:3", "c1:;g3:000 999;m1:5;r2:01 10;s1:;w3:", "a1:;b2:;c3:;d1:;e2:;f3:", "a1:0;z1:" + eightRows,
		referenceFormatDatabase(fullDatabase()),
	} {
		for _, s := range byteChanges(format) {
			expectReferenceDatabase(t, s)
		}
	}
}

// Every short string is accepted exactly if it is a format.
func TestParseDatabaseAcceptsNothingElse(t *testing.T) {
	for _, s := range stringsOver(allBytes(), 2) {
		expectReferenceDatabase(t, s)
	}
	for _, s := range stringsOver("az02:; ", 5) {
		expectReferenceDatabase(t, s)
	}
	for _, s := range stringsOver("ab1:;", 7) {
		expectReferenceDatabase(t, s)
	}
	// The letters stand for the parts, so that every order of the parts is tried.
	parts := strings.NewReplacer("0", "a1:", "1", "b2:01", "2", "c3:", "3", "z1:0 1", "4", "b1:", "5", "d2:1")
	for _, s := range stringsOver("01234;", 6) {
		expectReferenceDatabase(t, parts.Replace(s))
	}
	for _, s := range stringsOver("012345", 5) {
		expectReferenceDatabase(t, parts.Replace(strings.Join(strings.Split(s, ""), ";")))
	}
}

// The result does not depend on the order in which a map is ranged over.
func TestDatabaseResultsAreRepeated(t *testing.T) {
	for range 200 {
		expectSet(t, named("afmrz"), sampleTable('s'), named(sixNames), true)
		expectSet(t, named(sixNames), sampleTable('m'), named(sixNames), true)
		expectRemoved(t, named(sixNames), "f", named("amrsz"), true)
	}
}

// surroundedDatabase is a database together with all memory around it, unused capacity included.
type surroundedDatabase struct {
	database database
	parts    []surrounded
	tables   []table
}

func surroundDatabase(db database) surroundedDatabase {
	tables := []table{tableOf("y", 1, "4")}
	var parts []surrounded
	for _, t := range db.Tables {
		part := surround(t)
		parts = append(parts, part)
		tables = append(tables, part.table)
	}
	tables = append(tables, tableOf("z", 2, "33"), tableOf("a", 3, "444"), table{})
	return surroundedDatabase{database: database{Tables: tables[1 : 1+len(db.Tables)]}, parts: parts, tables: tables}
}

// content shows everything in the memory.
func (s surroundedDatabase) content() string {
	shown := showDatabase(s.database) + showDatabase(database{Tables: s.tables})
	for _, part := range s.parts {
		shown += part.content()
	}
	return shown
}

// spoil overwrites everything in the memory.
func (s surroundedDatabase) spoil() {
	for _, part := range s.parts {
		part.spoil()
	}
	for i := range s.tables {
		s.tables[i] = tableOf("x", 1, "6")
	}
}

// databaseResults holds all results of the functions of the chapter.
type databaseResults struct {
	answers   []string
	tables    []table
	databases []database
}

func resultsForDatabases(a database, b database, t table, name string, s string) *databaseResults {
	var r databaseResults
	answer := func(answers ...any) { r.answers = append(r.answers, fmt.Sprint(answers...)) }
	keep := func(db database, ok bool) {
		answer(ok)
		r.databases = append(r.databases, db)
	}
	answer(impl.EqualDatabases(a, b), impl.EqualDatabases(b, a))
	for _, db := range []database{a, b} {
		answer(impl.IsValidDatabase(db), impl.CountRows(db))
		r.answers = append(r.answers, impl.FormatDatabase(db))
		found, ok := impl.LookupTable(db, name)
		answer(ok)
		r.tables = append(r.tables, found)
		keep(impl.SetTable(db, t))
		keep(impl.RemoveTable(db, name))
	}
	keep(impl.ParseDatabase(s))
	return &r
}

// content shows all results.
func (r *databaseResults) content() string {
	shown := fmt.Sprintf("%q %v", r.answers, showDatabase(database{Tables: r.tables}))
	for _, db := range r.databases {
		shown += " " + showDatabase(db)
	}
	return shown
}

// disjoint reports whether no two slices of one result, and no two results, share memory. It overwrites the results.
func (r *databaseResults) disjoint() bool {
	all := tableResults{tables: slices.Clone(r.tables)}
	for _, db := range r.databases {
		all.tables = append(all.tables, db.Tables...)
	}
	if !all.disjoint() {
		return false
	}
	mark := func(i int) table { return table{Arity: 100 + i} }
	for i, db := range r.databases {
		full := db.Tables[:cap(db.Tables)]
		for k := range full {
			full[k] = mark(i)
		}
	}
	for i, db := range r.databases {
		if slices.ContainsFunc(db.Tables[:cap(db.Tables)], func(t table) bool { return !sameTable(t, mark(i)) }) {
			return false
		}
	}
	return true
}

// argumentDatabases returns valid and invalid databases for the tests of memory.
func argumentDatabases() []database {
	return []database{
		{}, named("r"), named("as"), named("ars"), named(sixNames), fullDatabase(), databaseOf(tableOf("r", 2, "")),
		named("sra"), named("rr"), named("abcdefg"), with(named("ars"), 1, tableOf("r", 2, "10 01")), with(named("ars"), 0, tableOf("ab", 2, "01 1 012")),
	}
}

func databaseArguments(i int) (table, string, string) {
	tables := []table{sampleTable('r'), tableOf("a", 2, "01 10"), tableOf("t", 3, eightTriples), tableOf("r", 2, "10 01"), {}}
	names := []string{"r", "a", "s", "q", "rs"}
	formats := []string{"r2:01;s1:3", "", "s1:3;r2:01", "a1:0 1;r2:01;s1:3", "r2:01;"}
	return tables[i], names[i], formats[i]
}

func TestDatabasesLeaveArgumentsAlone(t *testing.T) {
	for _, first := range argumentDatabases() {
		for _, second := range argumentDatabases() {
			for i := range 5 {
				element, label, format := databaseArguments(i)
				a, b, c := surroundDatabase(first), surroundDatabase(second), surround(element)
				name, nameMemory := changeable(label)
				s, sMemory := changeable(format)
				content := func() string {
					return a.content() + b.content() + c.content() + fmt.Sprint(nameMemory, sMemory)
				}
				before := content()
				results := resultsForDatabases(a.database, b.database, c.table, name, s)
				if after := content(); after != before {
					t.Fatalf("the arguments\n%s\nbecame\n%s", before, after)
				}
				// The change of an argument changes no result, and no later call.
				shown := results.content()
				a.spoil()
				b.spoil()
				c.spoil()
				clear(nameMemory)
				clear(sMemory)
				if now := results.content(); now != shown {
					t.Fatalf("the results\n%s\nbecame\n%s", shown, now)
				}
				again := resultsForDatabases(first, second, element, label, format)
				if now := again.content(); now != shown {
					t.Fatalf("the results\n%s\nof the same arguments became\n%s", shown, now)
				}
			}
		}
	}
}

// The change of a result, its unused capacity included, changes neither an argument nor another result.
func TestDatabaseResultsAreNewMemory(t *testing.T) {
	for _, first := range argumentDatabases() {
		for i := range 5 {
			element, name, format := databaseArguments(i)
			a, b, c := surroundDatabase(first), surroundDatabase(named("ars")), surround(element)
			content := func() string { return a.content() + b.content() + c.content() }
			before := content()
			results := resultsForDatabases(a.database, b.database, c.table, name, format)
			others := resultsForDatabases(a.database, b.database, c.table, name, format)
			shown := others.content()
			if !results.disjoint() {
				t.Fatalf("two slices of the results for %v and %v share memory", showDatabase(first), show(element))
			}
			if after := content(); after != before {
				t.Fatalf("the change of a result changed the arguments\n%s\nto\n%s", before, after)
			}
			if now := others.content(); now != shown {
				t.Fatalf("the change of a result changed the other results\n%s\nto\n%s", shown, now)
			}
		}
	}
}

// Tables that share memory in an argument do not share it in a result.
func TestSharedTablesAreSeparated(t *testing.T) {
	memory := []int{0, 1, 0, 2}
	rows := [][]int{memory[0:2], memory[2:4]}
	shared := databaseOf(table{Name: "r", Arity: 2, Rows: rows}, table{Name: "s", Arity: 2, Rows: rows}, table{Name: "t", Arity: 2, Rows: rows[:1]})
	twice := databaseOf(shared.Tables[0], shared.Tables[0])
	for _, from := range []database{shared, twice} {
		for _, element := range []table{shared.Tables[1], {Name: "a", Arity: 2, Rows: rows}, {Name: "rr", Arity: 2, Rows: rows}} {
			if !resultsForDatabases(from, shared, element, "s", "").disjoint() {
				t.Errorf("two slices of the results for %v and %v share memory", showDatabase(from), show(element))
			}
			if !slices.Equal(memory, []int{0, 1, 0, 2}) || !sameRows(rows, [][]int{{0, 1}, {0, 2}}) {
				t.Fatal("the change of a result changed an argument", memory, rows)
			}
		}
	}
}

func TestDatabaseSamplesAreAsNamed(t *testing.T) {
	for _, valid := range validDatabases() {
		if parsed, ok := referenceParseDatabase(referenceFormatDatabase(valid)); !ok || !sameDatabase(parsed, valid) {
			t.Errorf("the sample %v is not valid", showDatabase(valid))
		}
	}
	for _, invalid := range invalidDatabases() {
		if parsed, ok := referenceParseDatabase(referenceFormatDatabase(invalid)); ok && sameDatabase(parsed, invalid) {
			t.Errorf("the sample %v is valid", showDatabase(invalid))
		}
	}
}
