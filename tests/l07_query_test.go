package tests

import (
	"fmt"
	"math"
	"regexp"
	"slices"
	"strings"
	"testing"

	"loop.example/g01921/impl"
)

// Promise 2, as far as queries go: they can be parsed from their string format, and no other strings are accepted.

type query = impl.Query

type atom = impl.Atom

const fourVariables = "XYZU"

// atomOf returns the atom for a word such as r(XY), which need not be the format of an atom.
func atomOf(word string) atom {
	name, variables, _ := strings.Cut(strings.TrimSuffix(word, ")"), "(")
	return atom{Name: name, Vars: variablesIn(variables)}
}

// variablesIn returns the numbers of the variables in the order in which the string names them.
func variablesIn(names string) []int {
	var variables []int
	for i := range len(names) {
		variables = append(variables, strings.Index(fourVariables, names[i:i+1]))
	}
	return variables
}

// queryOf returns the query for words such as r(XY). Its variables go up to the greatest one of the words.
func queryOf(words string) query {
	q := query{}
	for _, word := range strings.Fields(words) {
		q.Atoms = append(q.Atoms, atomOf(word))
		q.VariableCount = max(q.VariableCount, slices.Max(append(q.Atoms[len(q.Atoms)-1].Vars, -1))+1)
	}
	return q
}

// counting returns the query for the words with this number of variables.
func counting(variableCount int, words string) query {
	return query{VariableCount: variableCount, Atoms: queryOf(words).Atoms}
}

func sameAtom(a atom, b atom) bool {
	return a.Name == b.Name && slices.Equal(a.Vars, b.Vars)
}

func sameQuery(a query, b query) bool {
	return a.VariableCount == b.VariableCount && slices.EqualFunc(a.Atoms, b.Atoms, sameAtom)
}

// cloneQuery returns a query that shares no memory with the argument.
func cloneQuery(q query) query {
	clone := query{VariableCount: q.VariableCount}
	for _, in := range q.Atoms {
		clone.Atoms = append(clone.Atoms, atom{Name: strings.Clone(in.Name), Vars: append([]int{}, in.Vars...)})
	}
	return clone
}

// showQuery returns the query in printable characters, whatever its names.
func showQuery(q query) string {
	shown := fmt.Sprintf("{%d", q.VariableCount)
	for _, in := range q.Atoms {
		shown += fmt.Sprintf(" %+q%v", in.Name, in.Vars)
	}
	return shown + "}"
}

// variableWords returns all words of one to three different variables.
func variableWords(names string) []string {
	var words []string
	for _, word := range stringsOver(names, 3)[1:] {
		if strings.Count(word, word[:1]) == 1 && (len(word) < 3 || word[1] != word[2]) {
			words = append(words, word)
		}
	}
	return words
}

// referenceQuery returns the query with this format.
func referenceQuery(s string) (query, bool) {
	if !queryPattern.MatchString(s) {
		return query{}, false
	}
	q := queryOf(s)
	for i := range q.VariableCount {
		if !strings.Contains(s, fourVariables[i:i+1]) {
			return query{}, false
		}
	}
	for _, in := range q.Atoms {
		for i, v := range in.Vars {
			if slices.Contains(in.Vars[i+1:], v) {
				return query{}, false
			}
		}
	}
	return q, true
}

var queryPattern = regexp.MustCompile(`\A[a-z]\([XYZU]{1,3}\)( [a-z]\([XYZU]{1,3}\)){0,3}\z`)

// referenceQueryFormat writes the query as if it were valid.
func referenceQueryFormat(q query) string {
	var words []string
	for _, in := range q.Atoms {
		word := in.Name + "("
		for _, v := range in.Vars {
			if v < 0 || v > 3 {
				word += "?"
			} else {
				word += fourVariables[v : v+1]
			}
		}
		words = append(words, word+")")
	}
	return strings.Join(words, " ")
}

// isReferenceQuery reports whether the query is the one with its format.
func isReferenceQuery(q query) bool {
	parsed, ok := referenceQuery(referenceQueryFormat(q))
	return ok && sameQuery(parsed, q)
}

// queryFormats returns formats of each number of atoms, arity and number of variables, among them those at all limits.
func queryFormats() []string {
	return []string{
		"r(X)", "a(X)", "z(XY)", "m(YX)", "r(XYZ)", "r(ZYX)", "r(YZX)", "r(XY) s(YZ)", "r(YX) s(ZY)", "s(YZ) r(XY)", "r(X) s(Y)", "r(X) r(X)", "r(XY) r(YX)", "r(XY) r(XY)",
		"r(XY) s(Z)", "r(Z) s(XY)", "r(U) s(XYZ)", "r(UZY) s(X)", "r(X) s(XYZ) t(ZU)", "r(XY) s(YZ) t(ZU)", "r(XY) s(YZ) t(ZX)", "r(XYZ) s(YZU) t(ZUX)", "r(X) s(Y) t(Z)",
		"r(X) s(Y) t(Z) u(U)", "u(U) t(Z) s(Y) r(X)", "r(XY) s(YZ) t(ZU) u(UX)", "r(XY) r(YZ) r(ZU) r(UX)", "a(XYZ) f(YZU) m(ZUX) z(UXY)", "z(UZY) z(ZYX) z(YXU) z(XUZ)",
		"r(X) r(X) r(X) r(X)", "a(XYU) b(XZU) c(YU) d(Z)", "r(UX) s(UY) t(UZ)", "c(XY) b(XZ) a(XU)",
	}
}

// validQueries returns all queries of one or two atoms with these names, and queries up to the limits.
func validQueries() []query {
	var queries []query
	for _, format := range queryFormats() {
		queries = append(queries, queryOf(format))
	}
	for _, first := range variableWords(fourVariables) {
		if q, ok := referenceQuery("q(" + first + ")"); ok {
			queries = append(queries, q)
		}
		for _, second := range variableWords(fourVariables) {
			if q, ok := referenceQuery("q(" + first + ") p(" + second + ")"); ok {
				queries = append(queries, q)
			}
		}
	}
	return queries
}

// badVariables returns numbers outside 0 to 3, among them some whose low bits are inside.
func badVariables() []int {
	return []int{-1, -2, -4, 4, 5, 10, 31, 32, 63, 64, 65, 88, 128, 256, 257, -256, 1 << 32, 1<<32 + 1, -1 << 32, math.MaxInt, math.MinInt, math.MinInt + 1}
}

// masksOutside returns masks that are negative or have an atom beyond those of the full mask.
func masksOutside(full int) []int {
	masks := []int{-1, -2, -full, -full - 1, full + 1, full + 2, 2*full + 1, 16, 17, 31, 255, 1 << 31, 1<<32 + 1, 1<<62 + full, math.MaxInt, math.MaxInt - 1, math.MinInt, math.MinInt + 1, math.MinInt + full}
	return slices.DeleteFunc(append(masks, nearPowers()...), func(mask int) bool { return 0 <= mask && mask <= full })
}

// unusedVariableQueries returns queries with a variable that occurs in no atom.
func unusedVariableQueries() []query {
	queries := []query{
		counting(2, "r(X)"), counting(2, "r(Y)"), counting(3, "r(XY)"), counting(3, "r(XZ)"), counting(3, "r(YZ)"), counting(4, "r(XYZ)"), counting(4, "r(XYU)"),
		counting(4, "r(XZU)"), counting(4, "r(YZU)"), counting(3, "r(X) s(X)"), counting(3, "r(X) s(Y)"), counting(3, "r(Y) s(Z)"), counting(4, "r(XY) s(YZ)"),
		counting(4, "r(XY) s(YX) t(X) u(Y)"), counting(4, "r(XY) s(YU) t(UX)"), counting(4, "r(UX) s(XZ) t(ZU) u(X)"), counting(4, "r(Y) s(Z) t(U) u(YZU)"), counting(4, "r(U)"),
	}
	// Each set of occurring variables but the full one, in one atom and in one atom each.
	for count := 1; count <= 4; count++ {
		for set := 1; set < 1<<count-1; set++ {
			words, variables := "", ""
			for v := range count {
				if set>>v&1 == 1 {
					words += " r(" + fourVariables[v:v+1] + ")"
					variables += fourVariables[v : v+1]
				}
			}
			queries = append(queries, counting(count, words), counting(count, "s("+variables+")"), counting(count, "a(XY)"+words))
		}
	}
	return slices.DeleteFunc(queries, isReferenceQuery)
}

// invalidQueries returns queries that break one condition.
func invalidQueries() []query {
	queries := append(unusedVariableQueries(),
		query{}, query{VariableCount: 1}, query{VariableCount: 4, Atoms: []atom{}}, query{VariableCount: 1, Atoms: make([]atom, 1)}, query{Atoms: make([]atom, 1)},
		counting(1, "r(X) r(X) r(X) r(X) r(X)"), queryOf("r(XY) s(YZ) t(ZU) u(UX) v(X)"), queryOf("a(X) b(Y) c(Z) d(U) e(X)"), query{VariableCount: 1, Atoms: slices.Repeat(queryOf("r(X)").Atoms, 300)},
		counting(4, "r(XYZU)"), counting(4, "r(X) s(XYZU)"), counting(4, "r(XYZ) s(UXYZ)"), queryOf("r(XX)"), queryOf("r(XYX)"), queryOf("r(YXX)"), queryOf("r(XXY)"), queryOf("r(XXX)"),
		queryOf("r(XY) s(YY)"), queryOf("r(XX) s(XY)"), queryOf("r(XYZ) s(ZUZ)"), queryOf("r(XX) s(YY)"), counting(2, "r(XXY)"), counting(1, "r(XXXX)"),
		counting(1, "r()"), counting(1, "r(X) s()"), counting(2, "r() s(XY)"), counting(2, "r(XY) s() t(X)"), counting(0, "r(X)"), counting(0, "r()"),
		counting(1, "r(XY)"), counting(1, "r(Y)"), counting(2, "r(XY) s(YZ)"), counting(3, "r(XY) s(YZ) t(ZU)"), counting(1, "r(X) s(Y)"),
		query{VariableCount: 5, Atoms: []atom{{Name: "r", Vars: []int{0, 1, 2}}, {Name: "s", Vars: []int{3, 4}}}},
		query{VariableCount: 5, Atoms: []atom{{Name: "r", Vars: []int{0}}, {Name: "s", Vars: []int{1, 2, 3}}, {Name: "t", Vars: []int{4}}}},
		query{VariableCount: 6, Atoms: []atom{{Name: "r", Vars: []int{0, 1, 2}}, {Name: "s", Vars: []int{3, 4, 5}}}},
		query{VariableCount: 1, Atoms: []atom{{Name: "r", Vars: make([]int, 300)}}},
	)
	for _, count := range badVariables() {
		queries = append(queries, counting(count, "r(X)"), counting(count, "r(XY) s(YZ)"), counting(count, "r(XYZ) s(U)"))
	}
	for _, v := range badVariables() {
		for count := 1; count <= 4; count++ {
			all := []int{0, 1, 2, 3}[:count]
			for at := range count {
				// The other variables occur in the second atom.
				queries = append(queries, query{VariableCount: count, Atoms: []atom{{Name: "r", Vars: replaced(all, at, v)[:min(count, 3)]}, {Name: "s", Vars: all[:min(count, 3)]}, {Name: "t", Vars: all[count-1:]}}})
			}
		}
		queries = append(queries, query{VariableCount: 1, Atoms: []atom{{Name: "r", Vars: []int{v}}}}, query{VariableCount: 1, Atoms: []atom{{Name: "r", Vars: []int{0, v}}}})
		queries = append(queries, query{VariableCount: 2, Atoms: []atom{{Name: "r", Vars: []int{v, 0, 1}}}}, query{VariableCount: 2, Atoms: []atom{{Name: "r", Vars: []int{0, 1, v}}}})
	}
	for _, name := range badNames() {
		queries = append(queries, query{VariableCount: 1, Atoms: []atom{{Name: name, Vars: []int{0}}}})
		for at := range 4 {
			q := cloneQuery(queryOf("r(XY) s(YZ) t(ZU) u(UX)"))
			q.Atoms[at].Name = name
			queries = append(queries, q)
		}
	}
	return slices.DeleteFunc(queries, isReferenceQuery)
}

// tablesFor returns an empty table for each name of the query, which need not be valid.
func tablesFor(q query) database {
	var db database
	for _, in := range q.Atoms {
		if found := slices.ContainsFunc(db.Tables, func(t table) bool { return t.Name == in.Name }); !found {
			db.Tables = append(db.Tables, table{Name: in.Name, Arity: len(in.Vars)})
		}
	}
	slices.SortFunc(db.Tables, func(a table, b table) int { return strings.Compare(a.Name, b.Name) })
	return db
}

func expectVariables(t *testing.T, what string, got []int, want []int) {
	t.Helper()
	if !slices.Equal(got, want) {
		t.Errorf("%s = %v, want %v", what, got, want)
	}
}

func expectMasked(t *testing.T, q query, mask int, want []int) {
	t.Helper()
	expectVariables(t, fmt.Sprintf("MaskVariables(%v, %d)", showQuery(q), mask), impl.MaskVariables(q, mask), want)
}

func expectShared(t *testing.T, q query, a int, b int, want []int) {
	t.Helper()
	expectVariables(t, fmt.Sprintf("SharedVariables(%v, %d, %d)", showQuery(q), a, b), impl.SharedVariables(q, a, b), want)
	expectVariables(t, fmt.Sprintf("SharedVariables(%v, %d, %d)", showQuery(q), b, a), impl.SharedVariables(q, b, a), want)
}

func expectColumns(t *testing.T, in atom, variables []int, want []int) {
	t.Helper()
	expectVariables(t, fmt.Sprintf("AtomColumns({%+q %v}, %v)", in.Name, in.Vars, variables), impl.AtomColumns(in, variables), want)
}

func expectQueryFor(t *testing.T, db database, q query, want bool) {
	t.Helper()
	if got := impl.IsQueryFor(db, q); got != want {
		t.Errorf("IsQueryFor(%v, %v) = %v", showDatabase(db), showQuery(q), got)
	}
}

func expectParsedQuery(t *testing.T, s string, want query, wantOK bool) {
	t.Helper()
	got, ok := impl.ParseQuery(s)
	if !sameQuery(got, want) || ok != wantOK {
		t.Errorf("ParseQuery(%q) = %v, %v, want %v, %v", s, showQuery(got), ok, showQuery(want), wantOK)
	}
}

// expectReferenceParsed expects that the string is accepted exactly if it is a format.
func expectReferenceParsed(t *testing.T, s string) {
	t.Helper()
	want, ok := referenceQuery(s)
	expectParsedQuery(t, s, want, ok)
}

// expectInvalidQuery expects the fixed results for an invalid query.
func expectInvalidQuery(t *testing.T, q query) {
	t.Helper()
	if impl.IsValidQuery(q) {
		t.Errorf("IsValidQuery(%v) = true", showQuery(q))
	}
	if got := impl.FormatQuery(q); got != "" {
		t.Errorf("FormatQuery(%v) = %q", showQuery(q), got)
	}
	for mask := -1; mask <= 16; mask++ {
		expectMasked(t, q, mask, nil)
		expectShared(t, q, mask, 1, nil)
		expectShared(t, q, mask, mask, nil)
	}
}

func TestQueryLimits(t *testing.T) {
	if impl.MaxAtoms != 4 || impl.MaxVariables != 4 {
		t.Error("limits", impl.MaxAtoms, impl.MaxVariables)
	}
}

func TestIsValidQuery(t *testing.T) {
	for _, valid := range validQueries() {
		if !impl.IsValidQuery(valid) {
			t.Errorf("IsValidQuery(%v) = false", showQuery(valid))
		}
	}
	for _, invalid := range invalidQueries() {
		expectInvalidQuery(t, invalid)
	}
}

// A variable that occurs in no atom makes the query invalid, whichever variable it is.
func TestVariableInNoAtom(t *testing.T) {
	db := databaseFrom("a2:01;r1:0;s1:1")
	for _, q := range unusedVariableQueries() {
		expectInvalidQuery(t, q)
		expectQueryFor(t, db, q, false)
	}
	expectQueryFor(t, db, counting(1, "r(X)"), true)
	expectQueryFor(t, db, counting(2, "r(X)"), false)
	expectQueryFor(t, db, counting(2, "r(X) s(Y)"), true)
	expectQueryFor(t, db, counting(3, "r(X) s(Z)"), false)
	for _, s := range strings.Split("r(Y),r(Z),r(U),r(XZ),r(ZX),r(XU),r(YZ),r(XYU),r(UYX),r(YZU),r(Y) s(Z),r(X) s(Z),r(X) s(YU),r(XY) s(U),r(XZ) s(U),r(U) s(X) t(Y),r(Y) s(Z) t(U) u(Y)", ",") {
		expectParsedQuery(t, s, query{}, false)
	}
}

// Every query of one or two short atoms with variables within and beyond the limits, against a list of conditions.
func TestIsValidQueryAgainstReference(t *testing.T) {
	rows := rowsUpTo("01234", 4)
	for count := -1; count <= 6; count++ {
		for _, variables := range rows {
			expectValidity(t, query{VariableCount: count, Atoms: []atom{{Name: "r", Vars: variables}}})
		}
		for _, first := range rowsUpTo("0123", 3) {
			for _, second := range rowsUpTo("0124", 3) {
				expectValidity(t, query{VariableCount: count, Atoms: []atom{{Name: "r", Vars: first}, {Name: "s", Vars: second}}})
			}
		}
	}
}

func expectValidity(t *testing.T, q query) {
	t.Helper()
	occurring := map[int]bool{}
	want := 1 <= q.VariableCount && q.VariableCount <= 4 && 1 <= len(q.Atoms) && len(q.Atoms) <= 4
	for _, in := range q.Atoms {
		own := map[int]bool{}
		for _, v := range in.Vars {
			own[v], occurring[v] = true, true
			want = want && v >= 0 && v < q.VariableCount
		}
		want = want && len(own) == len(in.Vars) && 1 <= len(own) && len(own) <= 3 && len(in.Name) == 1 && strings.Contains("abcdefghijklmnopqrstuvwxyz", in.Name)
	}
	want = want && len(occurring) == q.VariableCount
	if got := impl.IsValidQuery(q); got != want {
		t.Errorf("IsValidQuery(%v) = %v", showQuery(q), got)
	}
	if got := impl.FormatQuery(q); (got != "") != want {
		t.Errorf("FormatQuery(%v) = %q", showQuery(q), got)
	}
}

// The limits are inclusive: four atoms, four variables, and three variables in an atom.
func TestQueryAtTheLimits(t *testing.T) {
	for atoms := range 7 {
		for _, word := range []string{" r(X)", " r(XY)", " r(ZYX)"} {
			expectValidity(t, queryOf(strings.Repeat(word, atoms)))
		}
	}
	for count := range 9 {
		var q query
		for v := range count {
			if v%3 == 0 {
				q.Atoms = append(q.Atoms, atom{Name: "r"})
			}
			q.Atoms[v/3].Vars = append(q.Atoms[v/3].Vars, v)
		}
		q.VariableCount = count
		expectValidity(t, q)
	}
	for arity := range 5 {
		expectValidity(t, query{VariableCount: 4, Atoms: []atom{{Name: "r", Vars: []int{1, 2, 3}}, {Name: "s", Vars: []int{0, 1, 2, 3}[:arity]}}})
	}
	long := atom{Name: "r", Vars: make([]int, 1<<20)}
	expectValidity(t, query{VariableCount: 1, Atoms: []atom{long}})
	expectValidity(t, query{VariableCount: 1, Atoms: slices.Repeat([]atom{{Name: "r", Vars: []int{0}}}, 1<<16)})
}

func TestNamesOfAtoms(t *testing.T) {
	for value := range 256 {
		name := string([]byte{byte(value)})
		valid := 'a' <= value && value <= 'z'
		for _, q := range []query{{VariableCount: 1, Atoms: []atom{{Name: name, Vars: []int{0}}}}, {VariableCount: 2, Atoms: []atom{{Name: "r", Vars: []int{1, 0}}, {Name: name, Vars: []int{1}}}}} {
			if got := impl.IsValidQuery(q); got != valid {
				t.Errorf("IsValidQuery(%v) = %v", showQuery(q), got)
			}
		}
	}
}

func TestVariableName(t *testing.T) {
	for v, want := range []string{"X", "Y", "Z", "U"} {
		if got := impl.VariableName(v); got != want {
			t.Errorf("VariableName(%d) = %q", v, got)
		}
	}
	others := badVariables()
	for v := range 1000 {
		others = append(others, v+4, -v-1)
	}
	for _, v := range append(others, nearPowers()...) {
		if got := impl.VariableName(v); got != "" && (v < 0 || v > 3) {
			t.Errorf("VariableName(%d) = %q", v, got)
		}
	}
}

func TestIsQueryForValues(t *testing.T) {
	for _, c := range []struct {
		format, words string
		want          bool
	}{
		{"r2:01;s2:11", "r(XY) s(YZ)", true},
		{"r2:01;s1:1", "r(XY) s(YZ)", false},
		{"r2:01;s1:1", "r(XY) s(Y)", true},
		{"r2:01;s1:1", "s(X) r(YX)", true},
		{"r2:;s1:", "s(X) r(YX)", true},
		{"r2:01;s1:1", "s(X)", true},
		{"r2:01;s1:1", "r(XY)", true},
		{"r2:01;s1:1", "r(X)", false},
		{"r2:01;s1:1", "r(XYZ)", false},
		{"r2:01;s1:1", "s(XY)", false},
		{"r2:01;s1:1", "t(X)", false},
		{"r2:01;s1:1", "r(XY) t(Y)", false},
		{"r2:01;s1:1", "t(X) r(XY)", false},
		{"r2:01;s1:1", "r(XY) s(X) r(YX) s(Y)", true},
		{"r2:01;s1:1", "r(XY) s(X) r(YX) s(YX)", false},
		{"r2:01;s1:1", "r(XY) s(X) r(Y) s(Y)", false},
		{"r2:01;s1:1", "r(XY) s(X) r(YX) t(Y)", false},
		{"r2:01", "r(XY) r(YZ) r(ZU) r(UX)", true},
		{"r2:01", "r(XY) r(YZ) r(ZU) r(U)", false},
		{"a3:;f3:;m3:;r1:;s1:;z3:", "a(XYZ) f(YZU) m(ZUX) z(UXY)", true},
		{"a3:;f3:;m3:;r1:;s1:;z2:", "a(XYZ) f(YZU) m(ZUX) z(UXY)", false},
		{"", "r(X)", false},
		{"r1:0 1", "r(X)", true},
	} {
		expectQueryFor(t, databaseFrom(c.format), queryOf(c.words), c.want)
	}
}

// Every database of at most three tables of each arity, with each query of at most three atoms.
func TestIsQueryForAgainstReference(t *testing.T) {
	words := strings.NewReplacer("0", " r(X)", "1", " r(XY)", "2", " s(Y)", "3", " s(XYZ)", "4", " t(ZX)", "5", " a(X)")
	for arities := range 4 * 4 * 4 {
		var db database
		arityOf := map[string]int{}
		for i, name := range []string{"r", "s", "t"} {
			if arity := arities >> (2 * i) & 3; arity > 0 {
				db.Tables = append(db.Tables, table{Name: name, Arity: arity})
				arityOf[name] = arity
			}
		}
		for _, letters := range stringsOver("012345", 3)[1:] {
			q := queryOf(words.Replace(letters))
			want := isReferenceQuery(q)
			for _, in := range q.Atoms {
				want = want && arityOf[in.Name] == len(in.Vars)
			}
			expectQueryFor(t, db, q, want)
		}
	}
}

// An invalid query or database makes IsQueryFor false, even where all tables with their arities can be found.
func TestIsQueryForRefuses(t *testing.T) {
	for _, invalid := range invalidQueries() {
		for _, format := range []string{"", "r1:0", "r2:01;s2:;t2:;u2:", "a1:;r3:;s2:;t1:;u1:"} {
			expectQueryFor(t, databaseFrom(format), invalid, false)
		}
		// As far as a name and an arity are valid, there is such a table.
		expectQueryFor(t, tablesFor(invalid), invalid, false)
	}
	for _, invalid := range invalidDatabases() {
		for _, words := range []string{"r(X)", "r(XY)", "r(XYZ)", "s(X) s(Y)", "a(XY)", "z(YX)"} {
			expectQueryFor(t, invalid, queryOf(words), false)
		}
		for _, in := range invalid.Tables {
			if len(in.Name) == 1 && 1 <= in.Arity && in.Arity <= 3 {
				expectQueryFor(t, invalid, query{VariableCount: in.Arity, Atoms: []atom{{Name: in.Name, Vars: []int{0, 1, 2}[:in.Arity]}}}, false)
			}
		}
	}
}

func TestMaskVariablesValues(t *testing.T) {
	for _, c := range []struct {
		words string
		// The variables of each mask, in the order of the masks.
		want string
	}{
		{"r(X)", "- X"},
		{"r(YX)", "- XY"},
		{"r(ZYX)", "- XYZ"},
		{"r(XY) s(YZ)", "- XY YZ XYZ"},
		{"r(ZY) s(YX)", "- YZ XY XYZ"},
		{"r(X) s(Y)", "- X Y XY"},
		{"r(XY) r(YX)", "- XY XY XY"},
		{"r(U) s(XYZ)", "- U XYZ XYZU"},
		{"r(XY) s(YZ) t(ZU)", "- XY YZ XYZ ZU XYZU YZU XYZU"},
		{"r(X) s(Y) t(Z) u(U)", "- X Y XY Z XZ YZ XYZ U XU YU XYU ZU XZU YZU XYZU"},
		{"r(XY) s(YZ) t(ZU) u(UX)", "- XY YZ XYZ ZU XYZU YZU XYZU XU XYU XYZU XYZU XZU XYZU XYZU XYZU"},
	} {
		for mask, names := range strings.Fields(c.want) {
			expectMasked(t, queryOf(c.words), mask, variablesIn(strings.Trim(names, "-")))
		}
	}
}

// referenceVariables returns the variables of the atoms in the mask of a valid query, by their names.
func referenceVariables(q query, mask int) string {
	words := strings.Fields(referenceQueryFormat(q))
	variables := ""
	for _, name := range strings.Split(fourVariables, "") {
		for i, word := range words {
			if mask/[]int{1, 2, 4, 8}[i]%2 == 1 && strings.Contains(word, name) && !strings.Contains(variables, name) {
				variables += name
			}
		}
	}
	return variables
}

// Each pair of masks of each query, against the reference.
func TestVariablesAgainstReference(t *testing.T) {
	for _, q := range validQueries() {
		for a := range 1 << len(q.Atoms) {
			first := referenceVariables(q, a)
			expectMasked(t, q, a, variablesIn(first))
			expectShared(t, q, a, a, variablesIn(first))
			expectShared(t, q, a, 0, nil)
			for b := range a {
				inBoth := func(name rune) rune {
					if strings.ContainsRune(referenceVariables(q, b), name) {
						return name
					}
					return -1
				}
				expectShared(t, q, a, b, variablesIn(strings.Map(inBoth, first)))
			}
		}
	}
}

func TestSharedVariablesValues(t *testing.T) {
	for _, c := range []struct {
		words string
		a, b  int
		want  string
	}{
		{"r(XY) s(YZ)", 1, 2, "Y"},
		{"r(XY) s(YZ)", 1, 3, "XY"},
		{"r(XY) s(YZ)", 3, 3, "XYZ"},
		{"r(XY) s(YZ)", 0, 3, ""},
		{"r(XY) s(YZ)", 0, 0, ""},
		{"r(X) s(Y)", 1, 2, ""},
		{"r(XY) r(YX)", 1, 2, "XY"},
		{"r(ZYX) s(UXZ)", 1, 2, "XZ"},
		{"r(XY) s(YZ) t(ZU)", 1, 4, ""},
		{"r(XY) s(YZ) t(ZU)", 3, 4, "Z"},
		{"r(XY) s(YZ) t(ZU)", 3, 6, "YZ"},
		{"r(XY) s(YZ) t(ZU)", 5, 2, "YZ"},
		{"r(XY) s(YZ) t(ZU) u(UX)", 3, 12, "XZ"},
		{"r(XY) s(YZ) t(ZU) u(UX)", 5, 10, "XYZU"},
		{"a(XYZ) f(YZU) m(ZUX) z(UXY)", 1, 8, "XY"},
		{"a(XYZ) f(YZU) m(ZUX) z(UXY)", 1, 2, "YZ"},
	} {
		expectShared(t, queryOf(c.words), c.a, c.b, variablesIn(c.want))
	}
}

// A mask that is negative or beyond the last atom has no variables. It shares none with another mask.
func TestMasksOutOfRange(t *testing.T) {
	for _, format := range queryFormats() {
		q := queryOf(format)
		full := 1<<len(q.Atoms) - 1
		for _, mask := range masksOutside(full) {
			expectMasked(t, q, mask, nil)
			expectShared(t, q, mask, full, nil)
			expectShared(t, q, mask, 1, nil)
			expectShared(t, q, mask, mask, nil)
		}
		all := variablesIn(fourVariables[:q.VariableCount])
		expectMasked(t, q, full, all)
		expectShared(t, q, full, full, all)
	}
}

func TestAtomColumnsValues(t *testing.T) {
	for _, c := range []struct {
		word      string
		variables []int
		want      []int
	}{
		{"s(YZ)", []int{1}, []int{0}},
		{"s(YZ)", []int{2}, []int{1}},
		{"s(YZ)", []int{1, 2}, []int{0, 1}},
		{"s(YZ)", []int{2, 1}, []int{0, 1}},
		{"s(ZY)", []int{1, 2}, []int{0, 1}},
		{"s(ZY)", []int{1}, []int{1}},
		{"s(YZ)", []int{0, 3}, nil},
		{"s(YZ)", nil, nil},
		{"s(YZ)", []int{}, nil},
		{"s(YZ)", []int{2, 2, 2}, []int{1}},
		{"s(UXZ)", []int{0, 2, 3}, []int{0, 1, 2}},
		{"s(UXZ)", []int{3, 2}, []int{0, 2}},
		{"s(UXZ)", []int{0, 1}, []int{1}},
		{"s()", []int{0, 1, 2, 3}, nil},
		{"s()", nil, nil},
	} {
		expectColumns(t, atomOf(c.word), c.variables, c.want)
	}
}

// The atom and the list may be invalid: with repeated or any other numbers, of any length.
func TestAtomColumnsOfAnyAtom(t *testing.T) {
	expectColumns(t, atom{}, []int{0}, nil)
	expectColumns(t, atom{Vars: []int{0}}, []int{0}, []int{0})
	expectColumns(t, atom{Name: "rs", Vars: []int{1, 1, 0, 1}}, []int{1}, []int{0, 1, 3})
	expectColumns(t, atom{Name: "\xff", Vars: []int{1, 1, 0, 1}}, []int{0, 0}, []int{2})
	extremes := badVariables()
	for at, v := range extremes {
		expectColumns(t, atom{Name: "r", Vars: extremes}, []int{v}, []int{at})
		expectColumns(t, atom{Name: "r", Vars: []int{v}}, extremes, []int{0})
		expectColumns(t, atom{Name: "r", Vars: []int{v}}, replaced(extremes, at, 0), nil)
		expectColumns(t, atom{Name: "r", Vars: []int{0, v, 1, v}}, []int{v, 1}, []int{1, 2, 3})
		expectColumns(t, atom{Name: "r", Vars: []int{0, 1, 2, 3}}, []int{v}, nil)
	}
	for _, variables := range rowsUpTo("01234", 4) {
		for _, list := range rowsUpTo("0135", 3) {
			var want []int
			for column, v := range variables {
				if slices.Contains(list, v) {
					want = append(want, column)
				}
			}
			expectColumns(t, atom{Name: "r", Vars: variables}, list, want)
		}
	}
}

// Long lists take no more time than their length requires.
func TestAtomColumnsOfLongLists(t *testing.T) {
	ascending, descending := make([]int, 1<<19), make([]int, 1<<19)
	for i := range ascending {
		ascending[i], descending[i] = i, -i
	}
	if got := impl.AtomColumns(atom{Name: "r", Vars: ascending}, descending); !slices.Equal(got, []int{0}) {
		t.Error("found", len(got), "columns instead of one")
	}
	if got := impl.AtomColumns(atom{Name: "r", Vars: ascending}, ascending); !slices.Equal(got, ascending) {
		t.Error("found", len(got), "columns instead of all")
	}
}

// arbitraryQueries returns valid and invalid queries, no two of them equal.
func arbitraryQueries() []query {
	var queries []query
	for _, format := range queryFormats() {
		queries = append(queries, queryOf(format))
	}
	queries = append(queries, queryOf("r(X) s(X)"), queryOf("s(X) r(X)"), queryOf("r(X) s(XY)"), queryOf("r(XY) s(X)"), queryOf("r(XYX)"), queryOf("r(X) r() r(YX)"))
	for _, count := range []int{0, 1, 2, 5, -1, math.MaxInt, math.MinInt} {
		for _, words := range []string{"", "r()", "r() r()", "s()", "q(X)", "q(Y)", "q(XX)", "q(XXX)", "q() q(X)", "q(X) q()"} {
			queries = append(queries, counting(count, words))
		}
		for _, name := range []string{"", "rs", "sr", "\x00", "\xff", "é", strings.Repeat("r", 300)} {
			queries = append(queries, query{VariableCount: count, Atoms: []atom{{Name: name, Vars: []int{0}}}}, query{VariableCount: count, Atoms: []atom{{Name: name}}})
		}
		for _, v := range badVariables() {
			queries = append(queries, query{VariableCount: count, Atoms: []atom{{Name: "r", Vars: []int{v}}}}, query{VariableCount: count, Atoms: []atom{{Name: "r", Vars: []int{0, v}}}})
		}
	}
	return queries
}

func TestEqualQueries(t *testing.T) {
	queries := arbitraryQueries()
	for i, a := range queries {
		for k, b := range queries {
			if got := impl.EqualQueries(a, cloneQuery(b)); got != (i == k) {
				t.Errorf("EqualQueries(%v, %v) = %v", showQuery(a), showQuery(b), got)
			}
		}
	}
	nothing := []query{{}, {Atoms: []atom{}}}
	empty := []query{{Atoms: []atom{{Name: "r"}}}, {Atoms: []atom{{Name: "r", Vars: []int{}}}}}
	for i := range 2 {
		for k := range 2 {
			if !impl.EqualQueries(nothing[i], nothing[k]) || !impl.EqualQueries(empty[i], empty[k]) {
				t.Error("a nil slice does not equal an empty slice")
			}
			if impl.EqualQueries(nothing[i], empty[k]) || impl.EqualQueries(empty[i], nothing[k]) {
				t.Error("no atom equals an atom without variables")
			}
		}
	}
}

func TestFormatQueryValues(t *testing.T) {
	for _, c := range []struct {
		query query
		want  string
	}{
		{query{VariableCount: 3, Atoms: []atom{{Name: "r", Vars: []int{0, 1}}, {Name: "s", Vars: []int{1, 2}}}}, "r(XY) s(YZ)"},
		{query{VariableCount: 1, Atoms: []atom{{Name: "a", Vars: []int{0}}}}, "a(X)"},
		{query{VariableCount: 2, Atoms: []atom{{Name: "z", Vars: []int{1, 0}}}}, "z(YX)"},
		{query{VariableCount: 4, Atoms: []atom{{Name: "r", Vars: []int{3}}, {Name: "r", Vars: []int{2, 0, 1}}}}, "r(U) r(ZXY)"},
		{query{VariableCount: 4, Atoms: []atom{{Name: "d", Vars: []int{3, 2, 1}}, {Name: "c", Vars: []int{2}}, {Name: "b", Vars: []int{1, 0}}, {Name: "a", Vars: []int{0, 1, 3}}}}, "d(UZY) c(Z) b(YX) a(XYU)"},
		{query{VariableCount: 2, Atoms: []atom{{Name: "r", Vars: []int{0}}}}, ""},
		{query{VariableCount: 1, Atoms: []atom{{Name: "r", Vars: []int{0, 0}}}}, ""},
		{query{VariableCount: 1, Atoms: []atom{{Name: "R", Vars: []int{0}}}}, ""},
		{query{VariableCount: 1}, ""},
		{query{}, ""},
	} {
		if got := impl.FormatQuery(c.query); got != c.want {
			t.Errorf("FormatQuery(%v) = %q, want %q", showQuery(c.query), got, c.want)
		}
	}
}

// Each format is that of exactly one query, and is parsed as this query.
func TestQueryRoundTrip(t *testing.T) {
	formats := map[string]query{}
	for _, q := range validQueries() {
		s := impl.FormatQuery(q)
		if other, seen := formats[s]; s != referenceQueryFormat(q) || seen && !sameQuery(q, other) {
			t.Errorf("FormatQuery(%v) = %q", showQuery(q), s)
		}
		formats[s] = q
		expectParsedQuery(t, s, q, true)
	}
	for letter := byte('a'); letter <= 'z'; letter++ {
		name := string([]byte{letter})
		for _, s := range []string{name + "(X)", name + "(YX)", "r(XY) " + name + "(YZ)", name + "(X) " + name + "(X) " + name + "(UZY) " + name + "(X)"} {
			want, ok := referenceQuery(s)
			if got := impl.FormatQuery(want); got != s || !ok {
				t.Errorf("FormatQuery(%v) = %q, want %q", showQuery(want), got, s)
			}
			expectParsedQuery(t, s, want, true)
		}
	}
}

// All queries of three and of four atoms over some lists of variables.
func TestLongQueriesRoundTrip(t *testing.T) {
	words := []string{"X", "YX", "ZU", "UYZ", "XYZ"}
	for _, letters := range stringsOver("01234", 5)[1:] {
		var atoms []string
		for i, letter := range letters {
			atoms = append(atoms, "abcde"[i:i+1]+"("+words[letter-'0']+")")
		}
		s := strings.Join(atoms, " ")
		want, ok := referenceQuery(s)
		expectParsedQuery(t, s, want, ok)
		if got := impl.FormatQuery(want); ok && got != s {
			t.Errorf("FormatQuery(%v) = %q", showQuery(want), got)
		}
	}
}

func TestParseQueryLimits(t *testing.T) {
	greatest := "a(XYZ) f(YZU) m(ZUX) z(UXY)"
	expectParsedQuery(t, greatest, queryOf(greatest), true)
	for _, s := range []string{
		greatest + " ", greatest + " a(X)", " " + greatest, greatest + "\n", greatest + ")", "r(XYZU)", "r(XYZUX)", "r(XYZ) s(XYZU)", "r(X) r(X) r(X) r(X) r(X)", "r(XYZ) s(YZU) t(X) u(X) v(X)",
		"r(" + strings.Repeat("X", 1<<16) + ")", strings.Repeat("r(X) ", 1<<14) + "r(X)", strings.Repeat("r", 1<<16) + "(X)", strings.Repeat(" ", 1<<16), strings.Repeat("r(X)", 1<<14), strings.Repeat("(", 1<<16),
	} {
		expectParsedQuery(t, s, query{}, false)
	}
	expectParsedQuery(t, "r(X) r(X) r(X) r(X)", counting(1, "r(X) r(X) r(X) r(X)"), true)
	expectParsedQuery(t, "r(XYZ) s(U)", counting(4, "r(XYZ) s(U)"), true)
	expectParsedQuery(t, "r(X)", counting(1, "r(X)"), true)
	expectParsedQuery(t, "r()", query{}, false)
	expectParsedQuery(t, "", query{}, false)
}

func TestParseQueryRejects(t *testing.T) {
	for _, s := range []string{
		" ", "  ", "r", "X", "(", ")", "()", "r(", "r)", "(X)", "r(X", "rX)", "rX", "r X", "r(X))", "r((X)", "r((X))", "(r(X))", "r)X(", "r(X)(Y)", "r(X)Y", "r(X) ", " r(X)", "r (X)", "r( X)", "r(X )",
		"r(X Y)", "r(X,Y)", "r(XY),s(YZ)", "r(XY), s(YZ)", "r(XY);s(YZ)", "r(XY)s(YZ)", "r(XY)  s(YZ)", "r(XY)\ts(YZ)", "r(XY)\ns(YZ)", "r(XY)\u00a0s(YZ)", "r(X)\n", "\nr(X)", "\x00r(X)", "r(X)\x00",
		"r\x00(X)", "r(X\x00)", "rs(X)", "rr(X)", "R(X)", "1(X)", "`(X)", "{(X)", "é(X)", "r(x)", "r(xy)", "r(W)", "r(V)", "r(T)", "r(A)", "r(0)", "r(01)", "r(\x00)", "r(\x00\x01)", "r(\xff)", "r(XW)", "r(XYV)",
		"r(XX)", "r(XYX)", "r(YXX)", "r(XXX)", "r(XY) s(ZZ)", "r(XX) s(XY)", "r(XY) s()", "r() s(XY)", "r(XY) (YZ)", "r(XY) s", "r(XY) s(YZ", "r(XY s(YZ)", "r[XY]", "r{XY}", "r<XY>", "r2(XY)", "r2:01", "r(Ｘ)",
		"r(X)+s(X)", "r(X)&s(X)", "r(X)|s(X)", "r(X) s(Z)", "r(X)-", "+r(X)", "r(X)r(X)", "r(X) r(X) r(X) r(X) ", "r(X) r(X) r(X) r(X) r", "r(X(Y)", "r(X)Y)", "r(XY)) s(Y)", "r(X() s(Y)",
	} {
		if _, ok := referenceQuery(s); ok {
			t.Errorf("the sample %q is a format", s)
		}
		expectParsedQuery(t, s, query{}, false)
	}
}

// Each change of one byte is accepted exactly if the result is a format.
func TestParseQueryBytes(t *testing.T) {
	for _, format := range queryFormats() {
		for _, s := range byteChanges(format) {
			expectReferenceParsed(t, s)
		}
	}
}

// Every short string is accepted exactly if it is a format.
func TestParseQueryAcceptsNothingElse(t *testing.T) {
	for _, s := range stringsOver(allBytes(), 2) {
		expectReferenceParsed(t, s)
		expectReferenceParsed(t, s+"X)")
		expectReferenceParsed(t, "r("+s+")")
		expectReferenceParsed(t, "r(X)"+s+"(X)")
		expectReferenceParsed(t, "r(X)"+s+"r(X)")
	}
	for _, s := range stringsOver("az(XYZU) ", 5) {
		expectReferenceParsed(t, s)
	}
	for _, s := range stringsOver("r(XY) ", 7) {
		expectReferenceParsed(t, s)
	}
	for _, s := range stringsOver("XYZUW", 4) {
		expectReferenceParsed(t, "r("+s+")")
		expectReferenceParsed(t, "r(YXZ) s("+s+")")
		expectReferenceParsed(t, "r("+s+") s(ZU)")
	}
	// The letters stand for the parts, so that every order of the parts is tried.
	parts := strings.NewReplacer("0", "r(X)", "1", "s(XY)", "2", "t(ZU)", "3", "a(UYZ)", "4", "()")
	for _, s := range stringsOver("01234 ", 6) {
		expectReferenceParsed(t, parts.Replace(s))
	}
	for _, s := range stringsOver("01234", 5) {
		expectReferenceParsed(t, parts.Replace(strings.Join(strings.Split(s, ""), " ")))
	}
}

// surroundedQuery is a query together with all memory around it, unused capacity included.
type surroundedQuery struct {
	query query
	atoms []atom
	names [][]byte
	lists [][]int
}

func surroundQuery(q query) surroundedQuery {
	s := surroundedQuery{atoms: []atom{atomOf("y(U)")}}
	for _, in := range q.Atoms {
		name, nameMemory := changeable(in.Name)
		list, listMemory := withMargin(in.Vars)
		s.atoms = append(s.atoms, atom{Name: name, Vars: list})
		s.names = append(s.names, nameMemory)
		s.lists = append(s.lists, listMemory)
	}
	s.atoms = append(s.atoms, atomOf("z(UX)"), atomOf("a(YXZ)"), atom{})
	s.query = query{VariableCount: q.VariableCount, Atoms: s.atoms[1 : 1+len(q.Atoms)]}
	return s
}

// content shows everything in the memory.
func (s surroundedQuery) content() string {
	return fmt.Sprintf("%q %v", s.names, s.lists) + showQuery(s.query) + showQuery(query{Atoms: s.atoms})
}

// spoil overwrites everything in the memory.
func (s surroundedQuery) spoil() {
	for i := range s.names {
		clear(s.names[i])
		clear(s.lists[i])
	}
	for i := range s.atoms {
		s.atoms[i] = atomOf("x(ZYX)")
	}
}

// queryResults holds all results of the functions of the chapter.
type queryResults struct {
	answers []string
	lists   [][]int
	queries []query
}

func resultsForQueries(a query, b query, db database, variables []int, s string) *queryResults {
	var r queryResults
	answer := func(answers ...any) { r.answers = append(r.answers, fmt.Sprint(answers...)) }
	answer(impl.EqualQueries(a, b), impl.EqualQueries(b, a))
	for _, q := range []query{a, b} {
		answer(impl.IsValidQuery(q), impl.IsQueryFor(db, q))
		r.answers = append(r.answers, impl.FormatQuery(q), impl.VariableName(q.VariableCount-1))
		for mask := -1; mask <= 1<<len(q.Atoms); mask++ {
			r.lists = append(r.lists, impl.MaskVariables(q, mask), impl.SharedVariables(q, mask, 3), impl.SharedVariables(q, mask, mask))
		}
		for _, in := range q.Atoms {
			r.lists = append(r.lists, impl.AtomColumns(in, variables), impl.AtomColumns(in, in.Vars))
		}
	}
	parsed, ok := impl.ParseQuery(s)
	answer(ok)
	r.queries = append(r.queries, parsed)
	return &r
}

// content shows all results.
func (r *queryResults) content() string {
	shown := fmt.Sprintf("%q %v", r.answers, r.lists)
	for _, q := range r.queries {
		shown += " " + showQuery(q)
	}
	return shown
}

// disjoint reports whether no two slices of one result, and no two results, share memory. It overwrites the results.
func (r *queryResults) disjoint() bool {
	all := tableResults{lists: slices.Clone(r.lists)}
	for _, q := range r.queries {
		for _, in := range q.Atoms {
			all.lists = append(all.lists, in.Vars)
		}
	}
	if !all.disjoint() {
		return false
	}
	mark := func(i int) atom { return atom{Vars: []int{i}} }
	for i, q := range r.queries {
		full := q.Atoms[:cap(q.Atoms)]
		for k := range full {
			full[k] = mark(i)
		}
	}
	for i, q := range r.queries {
		if slices.ContainsFunc(q.Atoms[:cap(q.Atoms)], func(in atom) bool { return !sameAtom(in, mark(i)) }) {
			return false
		}
	}
	return true
}

// argumentQueries returns valid and invalid queries for the tests of memory.
func argumentQueries() []query {
	return []query{
		{}, queryOf("r(X)"), queryOf("r(XY) s(YZ)"), queryOf("s(ZY) r(YX)"), queryOf("r(XY) s(YZ) t(ZU) u(UX)"), queryOf("a(XYZ) f(YZU) m(ZUX) z(UXY)"), queryOf("r(X) r(X) r(X) r(X) r(X)"),
		queryOf("r(YXY)"), counting(4, "r(XY)"), counting(2, "r(XY) s()"), {VariableCount: 1, Atoms: []atom{{Name: "rs", Vars: []int{0}}}}, {VariableCount: -1, Atoms: []atom{{Vars: []int{-1, 10, 0}}}},
	}
}

func queryArguments(i int) (database, []int, string) {
	databases := []database{{}, named("ars"), databaseFrom("r2:01;s2:;t2:;u2:"), databaseFrom("a3:;f3:000;m3:;r1:;z3:"), named("sra")}
	lists := [][]int{nil, {1}, {1, 0, 2}, {3, 3, -1, 10}, {0, 1, 2, 3}}
	formats := []string{"r(XY) s(YZ)", "", "a(XYZ) f(YZU) m(ZUX) z(UXY)", "r(XX)", "r(YX) "}
	return databases[i], lists[i], formats[i]
}

func TestQueriesLeaveArgumentsAlone(t *testing.T) {
	for _, first := range argumentQueries() {
		for _, second := range argumentQueries() {
			for i := range 5 {
				db, list, format := queryArguments(i)
				a, b, c := surroundQuery(first), surroundQuery(second), surroundDatabase(db)
				variables, listMemory := withMargin(list)
				s, sMemory := changeable(format)
				content := func() string { return a.content() + b.content() + c.content() + fmt.Sprint(listMemory, sMemory) }
				before := content()
				results := resultsForQueries(a.query, b.query, c.database, variables, s)
				if after := content(); after != before {
					t.Fatalf("the arguments\n%s\nbecame\n%s", before, after)
				}
				// The change of an argument changes no result, and no later call.
				shown := results.content()
				a.spoil()
				b.spoil()
				c.spoil()
				clear(listMemory)
				clear(sMemory)
				if now := results.content(); now != shown {
					t.Fatalf("the results\n%s\nbecame\n%s", shown, now)
				}
				again := resultsForQueries(first, second, db, list, format)
				if now := again.content(); now != shown {
					t.Fatalf("the results\n%s\nof the same arguments became\n%s", shown, now)
				}
			}
		}
	}
}

// The change of a result, its unused capacity included, changes neither an argument nor another result.
func TestQueryResultsAreNewMemory(t *testing.T) {
	for _, first := range argumentQueries() {
		for i := range 5 {
			db, list, format := queryArguments(i)
			a, b, c := surroundQuery(first), surroundQuery(queryOf("r(XY) s(YZ)")), surroundDatabase(db)
			variables, listMemory := withMargin(list)
			content := func() string { return a.content() + b.content() + c.content() + fmt.Sprint(listMemory) }
			before := content()
			results := resultsForQueries(a.query, b.query, c.database, variables, format)
			others := resultsForQueries(a.query, b.query, c.database, variables, format)
			shown := others.content()
			if !results.disjoint() {
				t.Fatalf("two slices of the results for %v share memory", showQuery(first))
			}
			if after := content(); after != before {
				t.Fatalf("the change of a result changed the arguments\n%s\nto\n%s", before, after)
			}
			if now := others.content(); now != shown {
				t.Fatalf("the change of a result changed the other results\n%s\nto\n%s", shown, now)
			}
		}
	}
}

func TestQuerySamplesAreAsNamed(t *testing.T) {
	if len(validQueries()) < 700 || len(invalidQueries()) < 1000 || len(unusedVariableQueries()) < 50 {
		t.Error("there are", len(validQueries()), "valid,", len(invalidQueries()), "invalid and", len(unusedVariableQueries()), "invalid ones with unused variables")
	}
	for _, valid := range validQueries() {
		if !isReferenceQuery(valid) {
			t.Errorf("the sample %v is not valid", showQuery(valid))
		}
	}
	for _, q := range unusedVariableQueries() {
		format := referenceQueryFormat(q)
		if unused := strings.Trim(fourVariables[:q.VariableCount], format); unused == "" {
			t.Errorf("all variables occur in the sample %v", showQuery(q))
		}
	}
}
