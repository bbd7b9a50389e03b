package tests

import (
	"fmt"
	"math/rand/v2"
	"regexp"
	"slices"
	"strings"
	"testing"

	"loop.example/g01921/impl"
)

// Promise 4: an answer contains exactly the assignments for which every atom has a matching row.

type answer = impl.Answer

const tenDigits = "0123456789"

// answerOf returns the answer for a format such as YZ:00 10, which need not be that of a valid answer.
func answerOf(format string) answer {
	names, words, _ := strings.Cut(format, ":")
	return answer{Vars: variablesIn(names), Rows: rowsOf(words)}
}

func sameAnswer(a answer, b answer) bool {
	return slices.Equal(a.Vars, b.Vars) && sameRows(a.Rows, b.Rows)
}

// cloneAnswer returns an answer that shares no memory with the argument.
func cloneAnswer(a answer) answer {
	return answer{Vars: append([]int{}, a.Vars...), Rows: cloneTable(table{Rows: a.Rows}).Rows}
}

// showAnswer shows the beginning of the answer.
func showAnswer(a answer) string {
	return fmt.Sprintf("{%v %d: %.300v}", a.Vars, len(a.Rows), fmt.Sprint(a.Rows))
}

// wordsOfLength returns all words of this length, ascending if the letters are.
func wordsOfLength(letters string, length int) []string {
	return slices.DeleteFunc(stringsOver(letters, length), func(word string) bool { return len(word) < length })
}

// referenceAnswer tries each assignment of the digits to the variables of a mask. No other digits may occur in the tables.
func referenceAnswer(db database, q query, mask int, digits string) answer {
	words := map[string]map[string]bool{}
	for _, t := range db.Tables {
		words[t.Name] = map[string]bool{}
		for _, word := range strings.Fields(referenceFormat(t)[3:]) {
			if strings.Trim(word, digits) != "" {
				panic("the row " + word + " is not of the digits " + digits)
			}
			words[t.Name][word] = true
		}
	}
	names, namesOf := referenceVariables(q, mask), namesOfAtoms(q)
	matches := func(assigned string) bool {
		for _, i := range referenceAtoms(mask) {
			word := ""
			for _, name := range namesOf[i] {
				word += string(assigned[strings.IndexRune(names, name)])
			}
			if !words[q.Atoms[i].Name][word] {
				return false
			}
		}
		return true
	}
	var matching []string
	for _, assigned := range wordsOfLength(digits, len(names)) {
		if matches(assigned) {
			matching = append(matching, assigned)
		}
	}
	return answerOf(names + ":" + strings.Join(matching, " "))
}

var ascendingVariables = regexp.MustCompile(`\AX?Y?Z?U?\z`)

// referenceAnswerFormat returns the format of a valid answer.
func referenceAnswerFormat(a answer) (string, bool) {
	names := strings.Trim(referenceQueryFormat(query{Atoms: []atom{{Vars: a.Vars}}}), "()")
	if !ascendingVariables.MatchString(names) {
		return "", false
	}
	var words []string
	for i, row := range a.Rows {
		word := strings.Trim(strings.ReplaceAll(fmt.Sprint(row), " ", ""), "[]")
		// A value of more than one character is less than 0 or greater than 9.
		if len(row) != len(names) || len(word) != len(row) || i > 0 && words[i-1] >= word {
			return "", false
		}
		words = append(words, word)
	}
	return names + ":" + strings.Join(words, " "), true
}

// validAnswers returns answers with each set of variables, and up to those with all rows.
func validAnswers() []answer {
	answers := []answer{{}, {Vars: []int{}, Rows: [][]int{}}, {Rows: [][]int{{}}}, {Vars: []int{}, Rows: [][]int{nil}}}
	for set := 1; set < 16; set++ {
		names := ""
		for i := range 4 {
			if set>>i&1 == 1 {
				names += fourVariables[i : i+1]
			}
		}
		words := wordsOfLength(tenDigits, len(names))
		last := len(words) - 1
		for _, rows := range [][]string{{}, words[:1], words[last:], {words[0], words[last]}, {words[0], words[1], words[last-1], words[last]}, words[3:8], words} {
			answers = append(answers, answerOf(names+":"+strings.Join(rows, " ")))
		}
	}
	return answers
}

// invalidAnswers returns answers that break one condition.
func invalidAnswers() []answer {
	answers := []answer{
		{Rows: [][]int{{}, {}}}, {Rows: [][]int{nil, {}}}, {Rows: [][]int{{0}}}, {Rows: [][]int{{}, {0}}}, {Rows: make([][]int, 300)}, {Vars: make([]int, 300)},
		{Vars: []int{0, 1, 2, 3, 4}}, {Vars: []int{0, 1, 2, 3, 3}}, {Vars: []int{-1, 0, 1, 2, 3}}, {Vars: []int{0, 1, 2, 3, 4}, Rows: rowsOf("01234")},
		{Vars: []int{0}, Rows: [][]int{nil}}, {Vars: []int{0}, Rows: [][]int{{}}}, {Vars: []int{0, 1}, Rows: [][]int{{}, {0, 1}}}, {Vars: []int{2}, Rows: [][]int{{4}, nil}},
	}
	for _, format := range strings.Split("YX:,ZY:,UX:,XX:,UU:,XYX:,XZY:,YXZ:,XYY:,XXY:,ZYX:,XYUZ:,YXZU:,XYZUU:,YX:01,XX:00,XX:01,XZY:012,"+
		"X:1 0,X:0 0,X:9 9,X:0 1 1,X:0 2 1,X:1 0 2,X:0 1 2 3 4 5 6 7 8 9 9,X:01,X:0 01,X:0 1 23,XY:0,XY:012,XY:10 01,XY:01 01,XY:01 10 10,XY:00 1,XY:00 01 012,"+
		"YU:99 98,YU:0 10,XYZ:01,XYZ:0123,XYZ:000 010 001,XZU:100 011,XZU:999 999,XYZU:0001 0000,XYZU:012,XYZU:01234,XYZU:0000 0000,:0,:01", ",") {
		answers = append(answers, answerOf(format))
	}
	for _, v := range badVariables() {
		answers = append(answers, answer{Vars: []int{v}}, answer{Vars: []int{0, v}}, answer{Vars: []int{v, 3}}, answer{Vars: []int{0, v, 3}}, answer{Vars: []int{v}, Rows: rowsOf("0 1")}, answer{Vars: []int{0, 1, 2, v}})
	}
	for _, value := range badValues() {
		answers = append(answers, answer{Vars: []int{2}, Rows: [][]int{{value}}}, answer{Vars: []int{0}, Rows: [][]int{{5}, {value}}}, answer{Vars: []int{0}, Rows: [][]int{{value}, {5}}})
		answers = append(answers, answer{Vars: []int{0, 3}, Rows: [][]int{{0, value}}}, answer{Vars: []int{0, 1, 2, 3}, Rows: [][]int{{0, 1, value, 3}, {9, 9, 9, 9}}}, answer{Vars: []int{1, 2}, Rows: [][]int{{0, 1}, {5, value}}})
	}
	return answers
}

func expectAnswer(t *testing.T, db database, q query, mask int, want answer) {
	t.Helper()
	got, ok := impl.EvaluateMask(db, q, mask)
	if !sameAnswer(got, want) || !ok {
		t.Errorf("EvaluateMask(%v, %v, %d) = %v, %v, want %v", showDatabase(db), showQuery(q), mask, showAnswer(got), ok, showAnswer(want))
	}
	if size := impl.SubquerySize(db, q, mask); size != len(want.Rows) {
		t.Errorf("SubquerySize(%v, %v, %d) = %d, want %d", showDatabase(db), showQuery(q), mask, size, len(want.Rows))
	}
	if format, _ := referenceAnswerFormat(want); impl.FormatAnswer(got) != format || !impl.IsValidAnswer(got) {
		t.Errorf("the answer %v is invalid or has the format %q", showAnswer(got), impl.FormatAnswer(got))
	}
}

func expectQueryAnswer(t *testing.T, db database, q query, want answer, wantOK bool) {
	t.Helper()
	got, ok := impl.EvaluateQuery(db, q)
	if !sameAnswer(got, want) || ok != wantOK {
		t.Errorf("EvaluateQuery(%v, %v) = %v, %v, want %v, %v", showDatabase(db), showQuery(q), showAnswer(got), ok, showAnswer(want), wantOK)
	}
}

func expectSizes(t *testing.T, db database, q query, want []int) {
	t.Helper()
	expectVariables(t, fmt.Sprintf("TrueSizes(%v, %v)", showDatabase(db), showQuery(q)), impl.TrueSizes(db, q), want)
}

// expectNoAnswer expects the fixed results for a mask that is out of range.
func expectNoAnswer(t *testing.T, db database, q query, mask int) {
	t.Helper()
	if got, ok := impl.EvaluateMask(db, q, mask); !sameAnswer(got, answer{}) || ok {
		t.Errorf("EvaluateMask(%v, %v, %d) = %v, %v", showDatabase(db), showQuery(q), mask, showAnswer(got), ok)
	}
	if size := impl.SubquerySize(db, q, mask); size != -1 {
		t.Errorf("SubquerySize(%v, %v, %d) = %d, want -1", showDatabase(db), showQuery(q), mask, size)
	}
}

// expectNotEvaluated expects the fixed results where IsQueryFor returns false.
func expectNotEvaluated(t *testing.T, db database, q query) {
	t.Helper()
	for mask := -1; mask <= 16; mask++ {
		expectNoAnswer(t, db, q, mask)
	}
	expectQueryAnswer(t, db, q, answer{}, false)
	expectSizes(t, db, q, nil)
}

// expectEvaluated compares all results for a database with the tables of the query with the reference.
func expectEvaluated(t *testing.T, db database, q query, digits string) {
	t.Helper()
	sizes := []int{0}
	for mask := 1; mask < 1<<len(q.Atoms); mask++ {
		want := referenceAnswer(db, q, mask, digits)
		expectAnswer(t, db, q, mask, want)
		if isConnectedReference(namesOfAtoms(q), mask) {
			sizes = append(sizes, len(want.Rows))
		} else {
			sizes = append(sizes, 0)
		}
	}
	expectSizes(t, db, q, sizes)
	expectQueryAnswer(t, db, q, referenceAnswer(db, q, 1<<len(q.Atoms)-1, digits), true)
}

func TestEvaluateMaskValues(t *testing.T) {
	const db = "r2:00 01 11;s2:00 10 11;t2:07 12;u1:0 5;v1:1;w3:001 012 110"
	for _, c := range []struct {
		words string
		mask  int
		want  string
	}{
		{"r(XY) s(YZ)", 3, "XYZ:000 010 011 110 111"},
		{"r(XY) s(YZ)", 1, "XY:00 01 11"},
		{"r(XY) s(YZ)", 2, "YZ:00 10 11"},
		{"s(YZ) r(XY)", 3, "XYZ:000 010 011 110 111"},
		// The order of the variables in an atom is that of the columns.
		{"r(YX)", 1, "XY:00 10 11"},
		{"r(XY) s(XY)", 3, "XY:00 11"},
		{"r(XY) s(YX)", 3, "XY:00 01 11"},
		{"r(YX) s(ZY)", 3, "XYZ:000 001 100 101 111"},
		{"w(ZXY)", 1, "XYZ:010 101 120"},
		{"w(YZX) u(X)", 3, "XYZ:011"},
		{"w(UXZ) v(Y)", 1, "XZU:010 101 120"},
		{"w(UXZ) v(Y)", 3, "XYZU:0110 1101 1120"},
		// One table in several atoms.
		{"r(XY) r(YZ)", 3, "XYZ:000 001 011 111"},
		{"r(XY) r(YX)", 3, "XY:00 11"},
		{"u(X) u(Y)", 3, "XY:00 05 50 55"},
		{"u(X) u(X)", 3, "X:0 5"},
		{"t(XY) t(YZ)", 3, "XYZ:"},
		// Cycles.
		{"r(XY) s(YZ) t(ZX)", 7, "XYZ:"},
		{"r(XY) r(YZ) r(XZ)", 7, "XYZ:000 001 011 111"},
		{"r(XY) s(YZ) r(ZU) s(UX)", 15, "XYZU:0000 0001 0100 0101 0111 1101 1111"},
		// Paths, stars, and masks that are not connected.
		{"r(XY) s(YZ) t(ZU)", 7, "XYZU:0007 0107 0112 1107 1112"},
		{"r(XY) s(YZ) t(ZU)", 6, "YZU:007 107 112"},
		{"r(XY) s(YZ) t(ZU)", 5, "XYZU:0007 0012 0107 0112 1107 1112"},
		{"u(X) v(Y)", 3, "XY:01 51"},
		{"v(X) u(Y)", 3, "XY:10 15"},
		{"u(X) v(Y) u(Z) v(U)", 10, "YU:11"},
		{"u(X) v(Y) u(Z) v(U)", 5, "XZ:00 05 50 55"},
		{"u(U) v(Z) r(XY)", 7, "XYZU:0010 0015 0110 0115 1110 1115"},
		{"w(XYZ) r(XY) s(YZ) u(X)", 15, "XYZ:"},
		{"w(XYZ) r(XY) u(X)", 7, "XYZ:001 012"},
	} {
		expectAnswer(t, databaseFrom(db), queryOf(c.words), c.mask, answerOf(c.want))
	}
}

// An answer lists its variables in ascending order, whichever of its atoms comes first.
func TestOrderOfAtoms(t *testing.T) {
	db := databaseFrom("r2:00 01 11 20;s2:00 10 11;t2:07 12;u1:0 2 5")
	want, ok := impl.EvaluateQuery(db, queryOf("r(XY) s(YZ) t(ZU) u(X)"))
	if len(want.Rows) == 0 || !ok {
		t.Fatal("no rows")
	}
	words := strings.Fields("r(XY) s(YZ) t(ZU) u(X)")
	for _, order := range wordsOfLength("0123", 4) {
		var atoms []string
		for _, i := range order {
			atoms = append(atoms, words[i-'0'])
		}
		if q := queryOf(strings.Join(atoms, " ")); strings.Trim("0123", order) == "" {
			expectAnswer(t, db, q, 15, want)
		}
	}
}

// The edge case: an empty table. The answer has no rows, but it has its variables, and it is no failure.
func TestEmptyTable(t *testing.T) {
	for _, empty := range []string{"r", "s", "t", "u"} {
		var tables []string
		for _, format := range []string{"r2:00 01 11", "s2:00 10 11", "t2:00 10", "u2:00 01"} {
			if strings.HasPrefix(format, empty) {
				format = format[:3]
			}
			tables = append(tables, format)
		}
		db := databaseFrom(strings.Join(tables, ";"))
		for _, words := range []string{"r(XY) s(YZ) t(ZU) u(UX)", "u(XY) t(YZ) s(ZU) r(UX)", "r(XY) s(XZ) t(XU) u(YX)", "r(XY) s(XY) t(YZ) u(ZU)", "t(XY) s(ZU) r(YX) u(UZ)"} {
			q := queryOf(words)
			at := strings.Index(words, empty) / len("r(XY) ")
			for mask := 1; mask <= 15; mask++ {
				if slices.Contains(referenceAtoms(mask), at) {
					expectAnswer(t, db, q, mask, answer{Vars: variablesIn(referenceVariables(q, mask))})
				} else if impl.SubquerySize(db, q, mask) < 1 {
					t.Errorf("SubquerySize(%v, %v, %d) = %d", showDatabase(db), showQuery(q), mask, impl.SubquerySize(db, q, mask))
				}
			}
			expectEvaluated(t, db, q, "012")
		}
	}
	for _, c := range []struct {
		format string
		words  string
		want   string
		sizes  []int
	}{
		{"r1:", "r(X)", "X:", []int{0, 0}},
		{"r3:", "r(ZYX)", "XYZ:", []int{0, 0}},
		{"r1:;s1:5", "r(X) s(X)", "X:", []int{0, 0, 1, 0}},
		{"r1:;s1:5", "s(X) r(X)", "X:", []int{0, 1, 0, 0}},
		{"r1:;s1:5", "s(X) r(Y)", "XY:", []int{0, 1, 0, 0}},
		{"r1:;s1:5", "r(X) s(Y)", "XY:", []int{0, 0, 1, 0}},
		{"r2:;s2:01", "r(XY) s(YZ) r(ZU)", "XYZU:", []int{0, 0, 1, 0, 0, 0, 0, 0}},
		{"r2:;s2:", "r(XY) s(YZ)", "XYZ:", []int{0, 0, 0, 0}},
		// The empty table belongs to no atom.
		{"r1:5;s1:", "r(X)", "X:5", []int{0, 1}},
	} {
		db, q := databaseFrom(c.format), queryOf(c.words)
		expectQueryAnswer(t, db, q, answerOf(c.want), true)
		expectAnswer(t, db, q, len(c.sizes)-1, answerOf(c.want))
		expectSizes(t, db, q, c.sizes)
	}
}

// Tables of eight rows with the least and the greatest value, and all rows that four atoms can have.
func TestAnswersAtTheLimits(t *testing.T) {
	full := fullDatabase()
	for _, words := range []string{"a(XYZ) f(YZU) m(ZUX) z(UXY)", "a(XYZ) a(YZX) a(ZXY) a(ZYX)", "s(UZY) s(ZYX)", "r(XYZ)", "z(XYZ) z(XYU)"} {
		expectEvaluated(t, full, queryOf(words), "012359")
	}
	digits := databaseFrom("r1:0 2 3 4 5 6 7 9;s1:1 2 3 4 5 6 7 8;t1:0 1 2 3 6 7 8 9;u1:2 3 4 5 6 7 8 9")
	expectEvaluated(t, digits, queryOf("r(X) s(Y) t(Z) u(U)"), tenDigits)
	expectEvaluated(t, digits, queryOf("u(U) u(Z) u(X) u(Y)"), tenDigits)
	expectEvaluated(t, digits, queryOf("r(X) s(X) t(X) u(X)"), tenDigits)
	if size := impl.SubquerySize(digits, queryOf("r(X) s(Y) t(Z) u(U)"), 15); size != 4096 {
		t.Error("the product of four tables of eight rows has", size, "rows")
	}
	expectEvaluated(t, databaseFrom("a3:000 009 090 099 900 909 990 999"), queryOf("a(XYZ) a(YZU)"), "09")
	expectEvaluated(t, databaseFrom("a1:0 9;b1:0;c1:9;d1:;e1:5;z2:09 90"), queryOf("z(XY) z(YZ) a(X) c(Y)"), "059")
}

// subsetsOf returns each subset of the words, separated by spaces. The last one contains all words.
func subsetsOf(words []string) []string {
	var subsets []string
	for set := range 1 << len(words) {
		var chosen []string
		for i, word := range words {
			if set>>i&1 == 1 {
				chosen = append(chosen, word)
			}
		}
		subsets = append(subsets, strings.Join(chosen, " "))
	}
	return subsets
}

// Each pair of tables of two columns of two values, against the reference.
func TestPairsOfTablesAgainstReference(t *testing.T) {
	bodies := subsetsOf(strings.Fields("00 01 10 11"))
	for _, first := range bodies {
		for _, second := range bodies {
			db := databaseFrom("r2:" + first + ";s2:" + second)
			for _, words := range []string{"r(XY) s(XY)", "r(XY) s(YX)", "r(XY) s(YZ)", "r(XY) s(XZ)", "r(YX) s(ZX)", "s(XY) r(ZU)", "r(XY) r(YZ) s(ZX)"} {
				expectEvaluated(t, db, queryOf(words), "012")
			}
		}
	}
}

// scatteredTable returns a table of some of the rows over the digits.
func scatteredTable(source *rand.Rand, name string, arity int, digits string) table {
	words := wordsOfLength(digits, arity)
	source.Shuffle(len(words), func(i int, k int) { words[i], words[k] = words[k], words[i] })
	words = words[:min(source.IntN(9), len(words))]
	slices.Sort(words)
	return tableOf(name, arity, strings.Join(words, " "))
}

// scattered returns a database with the tables of the valid query, whose names become such that each has one arity.
func scattered(source *rand.Rand, q query, digits string) (database, query) {
	renamed := cloneQuery(q)
	for i, in := range renamed.Atoms {
		renamed.Atoms[i].Name = []string{"bz", "ar", "cs"}[len(in.Vars)-1][i/2 : i/2+1]
	}
	db := tablesFor(renamed)
	for i, in := range db.Tables {
		db.Tables[i] = scatteredTable(source, in.Name, in.Arity, digits)
	}
	return db, renamed
}

// Queries of all forms on arbitrary tables of few values, so that many rows match.
func TestEvaluationAgainstReference(t *testing.T) {
	source := rand.New(rand.NewPCG(9, 4))
	for _, q := range append(validQueries(), graphQueries()...) {
		db, renamed := scattered(source, q, "019")
		expectEvaluated(t, db, renamed, "0159")
	}
	for _, format := range queryFormats() {
		for range 5 {
			db, renamed := scattered(source, queryOf(format), "45")
			expectEvaluated(t, db, renamed, "456")
		}
	}
}

// All values from 0 to 9 occur in tables, and are tried for every variable.
func TestEvaluationOfAllValues(t *testing.T) {
	source := rand.New(rand.NewPCG(4, 9))
	for _, format := range queryFormats() {
		db, renamed := scattered(source, queryOf(format), tenDigits)
		full := 1<<len(renamed.Atoms) - 1
		expectAnswer(t, db, renamed, full, referenceAnswer(db, renamed, full, tenDigits))
	}
}

// Every assignment is in the answer exactly if every atom has a matching row.
func TestAnswersContainExactlyTheMatches(t *testing.T) {
	source := rand.New(rand.NewPCG(1, 7))
	for _, format := range queryFormats() {
		db, q := scattered(source, queryOf(format), "012")
		got, _ := impl.EvaluateQuery(db, q)
		found := 0
		for _, values := range rowsUpTo("012", q.VariableCount) {
			if len(values) < q.VariableCount {
				continue
			}
			matches := true
			for _, in := range q.Atoms {
				row, _ := impl.SelectColumns(values, in.Vars)
				of, _ := impl.LookupTable(db, in.Name)
				matches = matches && impl.ContainsRow(of, row)
			}
			if matches {
				found++
			}
			if contained := slices.ContainsFunc(got.Rows, func(row []int) bool { return slices.Equal(row, values) }); contained != matches {
				t.Errorf("EvaluateQuery(%v, %v) contains %v: %v", showDatabase(db), showQuery(q), values, contained)
			}
		}
		if found != len(got.Rows) {
			t.Errorf("EvaluateQuery(%v, %v) = %v, but there are %d rows", showDatabase(db), showQuery(q), showAnswer(got), found)
		}
	}
}

// A mask that is not connected has an answer, but its size is not among the true sizes.
func TestTrueSizesValues(t *testing.T) {
	const db = "r2:00 01 11;s2:00 10 11;t2:07 12;u1:0 5;v1:1;w3:001 012 110"
	for _, c := range []struct {
		words string
		want  []int
	}{
		{"r(XY)", []int{0, 3}},
		{"w(ZXY)", []int{0, 3}},
		{"r(XY) s(YZ)", []int{0, 3, 3, 5}},
		{"u(X) v(Y)", []int{0, 2, 1, 0}},
		{"u(X) v(X)", []int{0, 2, 1, 0}},
		{"u(X) u(X)", []int{0, 2, 2, 2}},
		{"r(XY) s(YZ) t(ZU)", []int{0, 3, 3, 5, 2, 0, 3, 5}},
		{"r(XY) t(ZU) s(YZ)", []int{0, 3, 2, 0, 3, 5, 3, 5}},
		{"u(X) v(Y) u(Z)", []int{0, 2, 1, 0, 2, 0, 0, 0}},
		{"r(XY) s(YZ) r(ZU) s(UX)", []int{0, 3, 3, 5, 3, 0, 5, 8, 3, 5, 0, 8, 5, 8, 8, 7}},
		{"u(X) v(Y) u(Z) v(U)", []int{0, 2, 1, 0, 2, 0, 0, 0, 1, 0, 0, 0, 0, 0, 0, 0}},
	} {
		expectSizes(t, databaseFrom(db), queryOf(c.words), c.want)
	}
}

// The masks of a query end with the full one, which is included, and begin with 1.
func TestEvaluationOfMasksOutside(t *testing.T) {
	db := databaseFrom("r2:01 10;s2:;t2:01")
	for _, words := range []string{"r(XY)", "r(XY) s(YZ)", "t(XY) r(ZU)", "r(XY) r(YZ) r(ZU)", "r(XY) r(YX) r(XY) r(XY)"} {
		q := queryOf(words)
		full := 1<<len(q.Atoms) - 1
		for _, mask := range append(masksOutside(full), 0) {
			expectNoAnswer(t, db, q, mask)
		}
		for _, mask := range []int{1, full/2 + 1, full} {
			expectAnswer(t, db, q, mask, referenceAnswer(db, q, mask, "01"))
		}
	}
}

// A query is evaluated for no mask if the database lacks one of its tables, even one that the mask does not contain.
func TestEvaluationWithoutTable(t *testing.T) {
	for _, c := range []struct{ format, words string }{
		{"", "r(X)"}, {"s1:0", "r(X)"}, {"r1:0", "r(XY)"}, {"r2:00", "r(X)"}, {"r3:000", "r(XY)"}, {"r2:00", "r(XYZ)"},
		{"r2:00", "r(XY) s(YZ)"}, {"s2:00", "r(XY) s(YZ)"}, {"r2:00;s1:0", "r(XY) s(YZ)"}, {"r2:00;s3:000", "r(XY) s(YZ)"}, {"r2:00", "r(XY) r(X)"}, {"r1:0", "r(XY) r(X)"},
		{"r2:00;s2:00;t2:00", "r(XY) s(YZ) t(ZU) u(UX)"}, {"r2:00;s2:00;t2:00;u1:0", "r(XY) s(YZ) t(ZU) u(UX)"}, {"s2:00;t2:00;u2:00", "r(XY) s(YZ) t(ZU) u(UX)"},
		{"r2:00;s2:00;t2:00;u2:", "r(XY) s(YZ) t(ZU) v(UX)"}, {"r2:;t2:", "r(XY) s(YZ) t(ZU)"},
	} {
		expectNotEvaluated(t, databaseFrom(c.format), queryOf(c.words))
	}
}

func TestEvaluationOfInvalidArguments(t *testing.T) {
	for _, invalid := range invalidQueries() {
		expectNotEvaluated(t, databaseFrom("a2:01;r1:0;s1:1"), invalid)
		expectNotEvaluated(t, tablesFor(invalid), invalid)
	}
	for _, invalid := range invalidDatabases() {
		for _, words := range []string{"r(X)", "r(XY)", "r(XY) r(YZ)", "s(XYZ)", "a(XY)"} {
			expectNotEvaluated(t, invalid, queryOf(words))
		}
	}
}

func TestIsValidAnswer(t *testing.T) {
	for _, valid := range validAnswers() {
		if !impl.IsValidAnswer(valid) {
			t.Errorf("IsValidAnswer(%v) = false", showAnswer(valid))
		}
	}
	for _, invalid := range invalidAnswers() {
		if impl.IsValidAnswer(invalid) {
			t.Errorf("IsValidAnswer(%v) = true", showAnswer(invalid))
		}
	}
}

func expectAnswerFormat(t *testing.T, a answer) {
	t.Helper()
	want, ok := referenceAnswerFormat(a)
	if got := impl.FormatAnswer(a); got != want || impl.IsValidAnswer(a) != ok {
		t.Errorf("FormatAnswer(%v) = %.200q, want %.200q, and IsValidAnswer = %v", showAnswer(a), got, want, !ok)
	}
}

// listsUpTo returns all lists of at most this many numbers from -1 to 4.
func listsUpTo(maxLength int) [][]int {
	var lists [][]int
	for _, word := range stringsOver("012345", maxLength) {
		list := []int{}
		for _, digit := range word {
			list = append(list, int(digit-'1'))
		}
		lists = append(lists, list)
	}
	return lists
}

// Every short list of variables with every short list of rows, against the reference.
func TestAnswersAgainstReference(t *testing.T) {
	rows := [][][]int{nil}
	for _, words := range stringsOver("0189 ", 5) {
		rows = append(rows, rowsOf(words))
	}
	for _, vars := range listsUpTo(3) {
		for _, list := range rows {
			expectAnswerFormat(t, answer{Vars: vars, Rows: list})
		}
	}
	for _, first := range listsUpTo(2) {
		for _, second := range listsUpTo(2) {
			for _, vars := range [][]int{nil, {0}, {0, 3}, {3, 0}} {
				expectAnswerFormat(t, answer{Vars: vars, Rows: [][]int{first, second}})
			}
		}
	}
	for _, vars := range rowsUpTo("01234", 5) {
		expectAnswerFormat(t, answer{Vars: vars})
		expectAnswerFormat(t, answer{Vars: vars, Rows: [][]int{make([]int, len(vars))}})
	}
}

func TestFormatAnswerValues(t *testing.T) {
	for _, c := range []struct {
		answer answer
		want   string
	}{
		{answer{Vars: []int{1, 2}, Rows: [][]int{{0, 0}, {1, 0}, {1, 1}}}, "YZ:00 10 11"},
		{answer{Vars: []int{0}, Rows: [][]int{{7}}}, "X:7"},
		{answer{Vars: []int{0}}, "X:"},
		{answer{Vars: []int{0, 1, 2, 3}}, "XYZU:"},
		{answer{Vars: []int{0, 1, 2, 3}, Rows: [][]int{{0, 1, 2, 3}, {9, 8, 7, 6}}}, "XYZU:0123 9876"},
		{answer{Vars: []int{0, 3}, Rows: [][]int{{0, 9}, {9, 0}}}, "XU:09 90"},
		{answer{Vars: []int{3}, Rows: [][]int{{0}, {4}, {5}, {9}}}, "U:0 4 5 9"},
		// The empty assignment has no digits.
		{answer{}, ":"},
		{answer{Rows: [][]int{{}}}, ":"},
		{answer{Rows: [][]int{{}, {}}}, ""},
		{answer{Vars: []int{1, 0}}, ""},
		{answer{Vars: []int{4}}, ""},
		{answer{Vars: []int{-1}}, ""},
		{answer{Vars: []int{0}, Rows: [][]int{{10}}}, ""},
		{answer{Vars: []int{0}, Rows: [][]int{{1}, {0}}}, ""},
		{answer{Vars: []int{0}, Rows: [][]int{{1, 0}}}, ""},
	} {
		if got := impl.FormatAnswer(c.answer); got != c.want {
			t.Errorf("FormatAnswer(%v) = %q, want %q", showAnswer(c.answer), got, c.want)
		}
		expectAnswerFormat(t, c.answer)
	}
	for _, a := range append(validAnswers(), invalidAnswers()...) {
		expectAnswerFormat(t, a)
	}
}

// arbitraryAnswers returns valid and invalid answers, no two of them equal.
func arbitraryAnswers() []answer {
	var answers []answer
	for _, format := range strings.Split("X:,Y:,XY:,YX:,XYZU:,X:0,X:1,Y:0,X:0 1,X:1 0,X:0 0,X:01,XY:01,XY:0,XY:0 1,XY:01 10,YX:01 10,XY:10 01,XY:01 10 11,XY:00 01 10,:0,:1,:01,:0 1,:1 0,XY:011,XY:01 1,XY:0 11", ",") {
		answers = append(answers, answerOf(format))
	}
	for _, v := range badVariables() {
		answers = append(answers, answer{Vars: []int{v}}, answer{Vars: []int{0, v}}, answer{Vars: []int{v, 0}}, answer{Vars: []int{v}, Rows: rowsOf("0")})
	}
	for _, value := range badValues() {
		answers = append(answers, answer{Vars: []int{0}, Rows: [][]int{{value}}}, answer{Rows: [][]int{{0}, {value}}}, answer{Rows: [][]int{{value}, {0}}}, answer{Rows: [][]int{{0, value}}})
	}
	return append(answers, answer{}, answer{Rows: [][]int{{}}}, answer{Rows: [][]int{{}, {}}}, answer{Vars: []int{0}, Rows: [][]int{{}}}, answer{Vars: []int{0}, Rows: [][]int{{}, {0}}}, answer{Vars: []int{0}, Rows: [][]int{{0}, {}}})
}

func TestEqualAnswers(t *testing.T) {
	answers := arbitraryAnswers()
	for i, a := range answers {
		for k, b := range answers {
			if got := impl.EqualAnswers(a, cloneAnswer(b)); got != (i == k) {
				t.Errorf("EqualAnswers(%v, %v) = %v", showAnswer(a), showAnswer(b), got)
			}
		}
	}
	for _, a := range []answer{{}, {Vars: []int{}}, {Rows: [][]int{}}} {
		for _, b := range []answer{{Rows: [][]int{nil}}, {Vars: []int{}, Rows: [][]int{{}}}} {
			if !impl.EqualAnswers(a, answer{}) || !impl.EqualAnswers(answer{}, a) || !impl.EqualAnswers(b, answer{Rows: [][]int{{}}}) {
				t.Error("a nil slice does not equal an empty slice")
			}
			if impl.EqualAnswers(a, b) || impl.EqualAnswers(b, a) {
				t.Error("no row equals an empty row")
			}
		}
	}
	for _, a := range validAnswers() {
		if !impl.EqualAnswers(a, cloneAnswer(a)) {
			t.Errorf("%v does not equal itself", showAnswer(a))
		}
	}
}

// surroundedAnswer is an answer together with all memory around it, unused capacity included.
type surroundedAnswer struct {
	answer answer
	vars   []int
	rows   surrounded
}

func surroundAnswer(a answer) surroundedAnswer {
	vars, memory := withMargin(a.Vars)
	rows := surround(table{Rows: a.Rows})
	return surroundedAnswer{answer: answer{Vars: vars, Rows: rows.table.Rows}, vars: memory, rows: rows}
}

// content shows everything in the memory.
func (s surroundedAnswer) content() string {
	return fmt.Sprint(s.vars) + s.rows.content()
}

// spoil overwrites everything in the memory.
func (s surroundedAnswer) spoil() {
	clear(s.vars)
	s.rows.spoil()
}

// evaluationResults holds all results of the functions of the chapter.
type evaluationResults struct {
	texts   []string
	answers []answer
	lists   [][]int
}

func resultsForEvaluation(db database, q query, mask int, a answer, b answer) *evaluationResults {
	var r evaluationResults
	keep := func(a answer, ok bool) {
		r.texts = append(r.texts, fmt.Sprint(ok))
		r.answers = append(r.answers, a)
	}
	keep(impl.EvaluateMask(db, q, mask))
	keep(impl.EvaluateMask(db, q, 1))
	keep(impl.EvaluateQuery(db, q))
	r.lists = append(r.lists, impl.TrueSizes(db, q))
	r.texts = append(r.texts, fmt.Sprint(impl.SubquerySize(db, q, mask), impl.EqualAnswers(a, b), impl.EqualAnswers(b, a)))
	for _, given := range []answer{a, b} {
		r.texts = append(r.texts, fmt.Sprint(impl.IsValidAnswer(given)), impl.FormatAnswer(given))
	}
	return &r
}

// content shows all results.
func (r *evaluationResults) content() string {
	return fmt.Sprint(r.texts, r.answers, r.lists)
}

// disjoint reports whether no two slices of one result, and no two results, share memory. It overwrites the results.
func (r *evaluationResults) disjoint() bool {
	all := tableResults{lists: slices.Clone(r.lists)}
	for _, a := range r.answers {
		all.lists = append(all.lists, a.Vars)
		all.tables = append(all.tables, table{Rows: a.Rows})
	}
	return all.disjoint()
}

// argumentAnswers returns valid and invalid answers for the tests of memory.
func argumentAnswers() []answer {
	return []answer{{}, answerOf("XY:01 10"), answerOf("YU:00 01 99"), answerOf("YX:01 10"), answerOf("X:1 0 1"), answerOf("X:0 01 1"), {Vars: []int{-1, 9}, Rows: [][]int{{-1, 10}, {}}}}
}

// evaluationArguments returns databases and queries, most of them with answers.
func evaluationArguments(i int) (database, query, int) {
	databases := []database{databaseFrom("r2:00 01 11;s2:00 10 11"), databaseFrom("r2:00 01 11;s2:00 10 11"), fullDatabase(), databaseFrom("r2:;s2:00"), databaseFrom("r1:5"), with(named("ars"), 0, tableOf("a", 4, "")), {}}
	words := []string{"r(XY) s(YZ)", "s(YX) r(YX) r(XZ) s(ZU)", "a(XYZ) f(ZYU) a(YXU)", "r(XY) s(YZ)", "r(X) r(X)", "r(X)", "r(XX)"}
	return databases[i], queryOf(words[i]), []int{2, 5, 3, 1, 3, 1, -1}[i]
}

func TestEvaluationLeavesArgumentsAlone(t *testing.T) {
	for i := range 7 {
		for _, first := range argumentAnswers() {
			for _, second := range argumentAnswers() {
				db, q, mask := evaluationArguments(i)
				a, b, c, d := surroundAnswer(first), surroundAnswer(second), surroundDatabase(db), surroundQuery(q)
				content := func() string { return a.content() + b.content() + c.content() + d.content() }
				before := content()
				results := resultsForEvaluation(c.database, d.query, mask, a.answer, b.answer)
				if after := content(); after != before {
					t.Fatalf("the arguments\n%s\nbecame\n%s", before, after)
				}
				// The change of an argument changes no result, and no later call.
				shown := results.content()
				a.spoil()
				b.spoil()
				c.spoil()
				d.spoil()
				if now := results.content(); now != shown {
					t.Fatalf("the results\n%s\nbecame\n%s", shown, now)
				}
				if now := resultsForEvaluation(db, q, mask, first, second).content(); now != shown {
					t.Fatalf("the results\n%s\nof the same arguments became\n%s", shown, now)
				}
			}
		}
	}
}

// The change of a result, its unused capacity included, changes neither an argument nor another result.
func TestEvaluationResultsAreNewMemory(t *testing.T) {
	for i := range 7 {
		db, q, mask := evaluationArguments(i)
		a, c, d := surroundAnswer(answerOf("XY:01 10")), surroundDatabase(db), surroundQuery(q)
		content := func() string { return a.content() + c.content() + d.content() }
		before := content()
		results := resultsForEvaluation(c.database, d.query, mask, a.answer, a.answer)
		others := resultsForEvaluation(c.database, d.query, mask, a.answer, a.answer)
		shown := others.content()
		if !results.disjoint() {
			t.Fatalf("two slices of the results for %v and %v share memory", showDatabase(db), showQuery(q))
		}
		if after := content(); after != before {
			t.Fatalf("the change of a result changed the arguments\n%s\nto\n%s", before, after)
		}
		if now := others.content(); now != shown {
			t.Fatalf("the change of a result changed the other results\n%s\nto\n%s", shown, now)
		}
	}
}

func TestEvaluationSamplesAreAsNamed(t *testing.T) {
	for _, valid := range validAnswers() {
		if _, ok := referenceAnswerFormat(valid); !ok {
			t.Errorf("the sample %v is not valid", showAnswer(valid))
		}
	}
	for _, invalid := range invalidAnswers() {
		if format, ok := referenceAnswerFormat(invalid); ok {
			t.Errorf("the sample %v is valid: %q", showAnswer(invalid), format)
		}
	}
	source := rand.New(rand.NewPCG(9, 4))
	rows := 0
	for _, q := range validQueries() {
		db, renamed := scattered(source, q, "019")
		if !impl.IsQueryFor(db, renamed) {
			t.Errorf("the tables %v are not those of %v", showDatabase(db), showQuery(renamed))
		}
		rows += len(referenceAnswer(db, renamed, 1<<len(renamed.Atoms)-1, "019").Rows)
	}
	if rows < 1000 {
		t.Error("all answers together have", rows, "rows")
	}
}
