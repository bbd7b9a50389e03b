package tests

import (
	"fmt"
	"slices"
	"strings"
	"testing"

	"loop.example/g01921/impl"
)

// Promise 11, as far as the query graph goes: there are as many different join trees without cross products as CountJoinTrees states.

// namesOfAtoms returns the variables of each atom of a valid query, by their names.
func namesOfAtoms(q query) []string {
	var names []string
	for _, word := range strings.Fields(referenceQueryFormat(q)) {
		names = append(names, strings.Trim(word[1:], "()"))
	}
	return names
}

// referenceAtoms returns the numbers of the atoms in a mask from 0 to 15.
func referenceAtoms(mask int) []int {
	var atoms []int
	for i, power := range []int{1, 2, 4, 8} {
		if mask/power%2 == 1 {
			atoms = append(atoms, i)
		}
	}
	return atoms
}

func namesInMask(names []string, mask int) string {
	joined := ""
	for _, i := range referenceAtoms(mask) {
		joined += names[i]
	}
	return joined
}

func referenceNeighbors(names []string, mask int) int {
	neighbors := 0
	for i, own := range names {
		if !slices.Contains(referenceAtoms(mask), i) && strings.ContainsAny(own, namesInMask(names, mask)) {
			neighbors += []int{1, 2, 4, 8}[i]
		}
	}
	return neighbors
}

// isConnectedReference reports whether the mask is not empty and every two parts of it share a variable.
func isConnectedReference(names []string, mask int) bool {
	for part := 1; part < mask; part++ {
		if part|mask == mask && !strings.ContainsAny(namesInMask(names, part), namesInMask(names, mask-part)) {
			return false
		}
	}
	return mask > 0
}

// joinTree is a binary tree of atoms.
type joinTree struct {
	text string
	// The mask of the left input, or 0 for a single atom.
	left int
	// The variables of all its atoms.
	names string
	// Whether the inputs of a join share no variable.
	crossed bool
}

// joinTrees returns all binary trees of the atoms in the mask, those with cross products included.
func joinTrees(names []string, mask int) []joinTree {
	if atoms := referenceAtoms(mask); len(atoms) == 1 {
		return []joinTree{{text: fmt.Sprint(atoms[0]), names: names[atoms[0]]}}
	}
	var trees []joinTree
	for part := 1; part < mask; part++ {
		if part|mask != mask {
			continue
		}
		for _, a := range joinTrees(names, part) {
			for _, b := range joinTrees(names, mask-part) {
				crossed := a.crossed || b.crossed || !strings.ContainsAny(a.names, b.names)
				trees = append(trees, joinTree{text: "(" + a.text + b.text + ")", left: part, names: a.names + b.names, crossed: crossed})
			}
		}
	}
	return trees
}

// referenceTrees returns the number of different join trees without cross products, and the masks of their left inputs.
func referenceTrees(names []string, mask int) (int, []int) {
	different := map[string]bool{}
	var lefts []int
	for _, tree := range joinTrees(names, mask) {
		if tree.crossed {
			continue
		}
		different[tree.text] = true
		if tree.left > 0 {
			lefts = append(lefts, tree.left)
		}
	}
	slices.Sort(lefts)
	return len(different), slices.Compact(lefts)
}

// shapeOf returns the pairs of adjacent atoms and the number of atoms.
func shapeOf(q query) string {
	names := namesOfAtoms(q)
	shape := fmt.Sprint(len(names), ":")
	for i := range names {
		for k := range i {
			if strings.ContainsAny(names[i], names[k]) {
				shape += fmt.Sprint(" ", k, i)
			}
		}
	}
	return shape
}

// graphQueries returns one query for each graph of one to four atoms.
func graphQueries() []query {
	words := slices.DeleteFunc(variableWords("UXYZ"), func(word string) bool {
		return !slices.IsSorted(strings.Split(word, ""))
	})
	var queries []query
	shapes := map[string]bool{}
	for _, letters := range stringsOver("abcdefghijklmn", 4)[1:] {
		var atoms []string
		for _, letter := range letters {
			atoms = append(atoms, "r("+words[letter-'a']+")")
		}
		q := queryOf(strings.Join(atoms, " "))
		if shape := shapeOf(q); !shapes[shape] && isReferenceQuery(q) {
			shapes[shape] = true
			queries = append(queries, q)
		}
	}
	return queries
}

func expectFullMask(t *testing.T, q query, want int) {
	t.Helper()
	if got := impl.FullMask(q); got != want {
		t.Errorf("FullMask(%v) = %d, want %d", showQuery(q), got, want)
	}
}

func expectMaskAtoms(t *testing.T, mask int, want []int) {
	t.Helper()
	expectVariables(t, fmt.Sprintf("MaskAtoms(%d)", mask), impl.MaskAtoms(mask), want)
}

func expectNeighbors(t *testing.T, q query, mask int, want int) {
	t.Helper()
	if got := impl.NeighborMask(q, mask); got != want {
		t.Errorf("NeighborMask(%v, %d) = %d, want %d", showQuery(q), mask, got, want)
	}
}

func expectConnectedMasks(t *testing.T, q query, want []int) {
	t.Helper()
	expectVariables(t, fmt.Sprintf("ConnectedMasks(%v)", showQuery(q)), impl.ConnectedMasks(q), want)
}

// expectTrees expects the splits and the number of join trees of a mask that is connected.
func expectTrees(t *testing.T, q query, mask int, splits []int, trees int) {
	t.Helper()
	if !impl.IsConnected(q, mask) {
		t.Errorf("IsConnected(%v, %d) = false", showQuery(q), mask)
	}
	expectSplits(t, q, mask, splits, trees)
}

// expectNotConnected expects the fixed results for a mask that is not connected.
func expectNotConnected(t *testing.T, q query, mask int) {
	t.Helper()
	if impl.IsConnected(q, mask) {
		t.Errorf("IsConnected(%v, %d) = true", showQuery(q), mask)
	}
	expectSplits(t, q, mask, nil, 0)
}

func expectSplits(t *testing.T, q query, mask int, splits []int, trees int) {
	t.Helper()
	expectVariables(t, fmt.Sprintf("JoinSplits(%v, %d)", showQuery(q), mask), impl.JoinSplits(q, mask), splits)
	if got := impl.CountJoinTrees(q, mask); got != trees {
		t.Errorf("CountJoinTrees(%v, %d) = %d, want %d", showQuery(q), mask, got, trees)
	}
}

// expectGraph compares all results for a valid query with the reference.
func expectGraph(t *testing.T, q query) {
	t.Helper()
	names := namesOfAtoms(q)
	full := []int{0, 1, 3, 7, 15}[len(names)]
	expectFullMask(t, q, full)
	var connected []int
	for mask := 0; mask <= full; mask++ {
		expectNeighbors(t, q, mask, referenceNeighbors(names, mask))
		if !isConnectedReference(names, mask) {
			expectNotConnected(t, q, mask)
			continue
		}
		connected = append(connected, mask)
		trees, splits := referenceTrees(names, mask)
		expectTrees(t, q, mask, splits, trees)
	}
	expectConnectedMasks(t, q, connected)
}

func TestFullMaskValues(t *testing.T) {
	for _, c := range []struct {
		words string
		want  int
	}{
		{"r(X)", 1},
		{"r(ZYX)", 1},
		{"r(XY) s(YZ)", 3},
		{"r(X) s(Y)", 3},
		{"r(X) r(X) r(X)", 7},
		{"r(XY) s(YZ) t(ZU)", 7},
		{"r(XY) s(YZ) t(ZU) u(UX)", 15},
		{"r(X) r(X) r(X) r(X)", 15},
		{"r(X) r(X) r(X) r(X) r(X)", 0},
		{"r(XX)", 0},
		{"r(Y)", 0},
		{"", 0},
	} {
		expectFullMask(t, queryOf(c.words), c.want)
	}
}

func TestMaskAtomsValues(t *testing.T) {
	for mask, atoms := range strings.Fields("- 0 1 01 2 02 12 012 3 03 13 013 23 023 123 0123") {
		var want []int
		for _, digit := range strings.Trim(atoms, "-") {
			want = append(want, int(digit-'0'))
		}
		expectMaskAtoms(t, mask, want)
	}
	for _, mask := range masksOutside(15) {
		expectMaskAtoms(t, mask, nil)
	}
	for beyond := range 1000 {
		expectMaskAtoms(t, 16+beyond, nil)
		expectMaskAtoms(t, -1-beyond, nil)
	}
}

func TestNeighborMaskValues(t *testing.T) {
	for _, c := range []struct {
		words string
		// The neighbours of each mask, in the order of the masks.
		want []int
	}{
		{"r(X)", []int{0, 0}},
		{"r(XY) s(YZ)", []int{0, 2, 1, 0}},
		{"r(XY) s(ZY)", []int{0, 2, 1, 0}},
		{"r(X) s(Y)", []int{0, 0, 0, 0}},
		{"r(X) r(X)", []int{0, 2, 1, 0}},
		{"r(XY) s(YZ) t(ZU)", []int{0, 2, 5, 4, 2, 2, 1, 0}},
		{"r(X) s(Y) t(XY)", []int{0, 4, 4, 4, 3, 2, 1, 0}},
		{"r(XY) s(Z) t(YX)", []int{0, 4, 0, 4, 1, 0, 1, 0}},
		{"r(XY) s(YZ) t(ZU) u(UX)", []int{0, 10, 5, 12, 10, 10, 9, 8, 5, 6, 5, 4, 3, 2, 1, 0}},
		{"r(XU) s(X) t(Y) u(YZ)", []int{0, 2, 1, 0, 8, 10, 9, 8, 4, 6, 5, 4, 0, 2, 1, 0}},
	} {
		for mask, want := range c.want {
			expectNeighbors(t, queryOf(c.words), mask, want)
		}
	}
}

func TestConnectedMasksValues(t *testing.T) {
	for _, c := range []struct {
		words string
		want  []int
	}{
		{"r(X)", []int{1}},
		{"r(XY) s(YZ)", []int{1, 2, 3}},
		{"r(X) s(Y)", []int{1, 2}},
		{"r(XY) s(YZ) t(ZU)", []int{1, 2, 3, 4, 6, 7}},
		{"r(XY) t(ZU) s(YZ)", []int{1, 2, 4, 5, 6, 7}},
		{"r(XY) s(YZ) t(ZX)", []int{1, 2, 3, 4, 5, 6, 7}},
		{"r(X) s(Y) t(Z)", []int{1, 2, 4}},
		{"r(XY) s(YZ) t(ZU) u(UX)", []int{1, 2, 3, 4, 6, 7, 8, 9, 11, 12, 13, 14, 15}},
		{"r(XYZ) s(X) t(Y) u(Z)", []int{1, 2, 3, 4, 5, 7, 8, 9, 11, 13, 15}},
		{"r(X) s(X) t(Y) u(Y)", []int{1, 2, 3, 4, 8, 12}},
		{"r(X) s(Y) t(Z) u(U)", []int{1, 2, 4, 8}},
	} {
		expectConnectedMasks(t, queryOf(c.words), c.want)
	}
}

func TestJoinTreesValues(t *testing.T) {
	for _, c := range []struct {
		words  string
		mask   int
		splits []int
		trees  int
	}{
		{"r(X)", 1, nil, 1},
		{"r(XY) s(YZ)", 1, nil, 1},
		{"r(XY) s(YZ)", 2, nil, 1},
		{"r(XY) s(YZ)", 3, []int{1, 2}, 2},
		{"r(X) s(Y)", 2, nil, 1},
		{"r(XY) s(YZ) t(ZU)", 4, nil, 1},
		{"r(XY) s(YZ) t(ZU)", 3, []int{1, 2}, 2},
		{"r(XY) s(YZ) t(ZU)", 6, []int{2, 4}, 2},
		{"r(XY) s(YZ) t(ZU)", 7, []int{1, 3, 4, 6}, 8},
		{"r(XY) t(ZU) s(YZ)", 7, []int{1, 2, 5, 6}, 8},
		{"r(XY) s(YZ) t(ZX)", 7, []int{1, 2, 3, 4, 5, 6}, 12},
		{"r(XY) s(YZ) t(ZX)", 5, []int{1, 4}, 2},
		// A path, a star, a cycle, and atoms that are all adjacent.
		{"r(X) s(XY) t(YZ) u(Z)", 15, []int{1, 3, 7, 8, 12, 14}, 40},
		{"r(XYZ) s(X) t(Y) u(Z)", 15, []int{2, 4, 7, 8, 11, 13}, 48},
		{"r(XY) s(YZ) t(ZU) u(UX)", 15, []int{1, 2, 3, 4, 6, 7, 8, 9, 11, 12, 13, 14}, 80},
		{"r(X) r(X) r(X) r(X)", 15, []int{1, 2, 3, 4, 5, 6, 7, 8, 9, 10, 11, 12, 13, 14}, 120},
		{"r(X) r(X) r(X) r(X)", 14, []int{2, 4, 6, 8, 10, 12}, 12},
		{"r(X) r(X) r(X) r(X)", 10, []int{2, 8}, 2},
	} {
		expectTrees(t, queryOf(c.words), c.mask, c.splits, c.trees)
	}
}

// The edge case: a mask whose atoms do not reach each other, though all of the query may.
func TestMasksThatAreNotConnected(t *testing.T) {
	for _, c := range []struct {
		words string
		masks []int
	}{
		{"r(X)", []int{0}},
		{"r(X) s(Y)", []int{0, 3}},
		{"r(XY) s(YZ)", []int{0}},
		{"r(XY) s(YZ) t(ZU)", []int{0, 5}},
		{"r(XY) t(ZU) s(YZ)", []int{0, 3}},
		{"s(YZ) r(XY) t(ZU)", []int{0, 6}},
		{"r(XY) s(Z) t(YX)", []int{0, 3, 6, 7}},
		{"r(X) s(Y) t(Z)", []int{0, 3, 5, 6, 7}},
		{"r(XY) s(YZ) t(ZU) u(UX)", []int{0, 5, 10}},
		{"r(XYZ) s(X) t(Y) u(Z)", []int{0, 6, 10, 12, 14}},
		{"r(X) s(X) t(Y) u(Y)", []int{0, 5, 6, 7, 9, 10, 11, 13, 14, 15}},
		{"r(XU) s(ZY) t(UX) u(YZ)", []int{0, 3, 6, 7, 9, 11, 12, 13, 14, 15}},
		{"r(X) s(Y) t(Z) u(U)", []int{0, 3, 5, 6, 7, 9, 10, 11, 12, 13, 14, 15}},
		{"r(X) s(XYZ) t(ZY) u(U)", []int{0, 5, 9, 10, 11, 12, 13, 14, 15}},
	} {
		q := queryOf(c.words)
		for mask := range 1 << len(q.Atoms) {
			if slices.Contains(c.masks, mask) {
				expectNotConnected(t, q, mask)
			} else if !impl.IsConnected(q, mask) || impl.CountJoinTrees(q, mask) < 1 {
				t.Errorf("the mask %d of %v is not connected", mask, showQuery(q))
			}
		}
		if slices.ContainsFunc(impl.ConnectedMasks(q), func(mask int) bool { return slices.Contains(c.masks, mask) }) {
			t.Errorf("ConnectedMasks(%v) = %v", showQuery(q), impl.ConnectedMasks(q))
		}
	}
}

// Each graph of one to four atoms, against the trees that are written out.
func TestGraphsAgainstReference(t *testing.T) {
	for _, q := range graphQueries() {
		expectGraph(t, q)
	}
	for _, q := range validQueries() {
		expectGraph(t, q)
	}
}

// The order of the variables in an atom and the names of the atoms change nothing.
func TestGraphsDependOnSharedVariablesOnly(t *testing.T) {
	for _, q := range graphQueries() {
		other := cloneQuery(q)
		for i := range other.Atoms {
			other.Atoms[i].Name = "zarz"[i : i+1]
			slices.Reverse(other.Atoms[i].Vars)
			for k, v := range other.Atoms[i].Vars {
				other.Atoms[i].Vars[k] = q.VariableCount - 1 - v
			}
		}
		if a, b := fmt.Sprint(resultsForGraph(q, 0)), fmt.Sprint(resultsForGraph(other, 0)); a != b {
			t.Errorf("the results\n%s\nfor %v became\n%s", a, showQuery(q), b)
		}
	}
}

// A split and its complement are both splits, and every connected mask of two or more atoms has one.
func TestSplitsHaveComplements(t *testing.T) {
	for _, q := range append(graphQueries(), validQueries()...) {
		for _, mask := range impl.ConnectedMasks(q) {
			splits := impl.JoinSplits(q, mask)
			if (len(splits) == 0) != (len(referenceAtoms(mask)) == 1) {
				t.Errorf("JoinSplits(%v, %d) = %v", showQuery(q), mask, splits)
			}
			for i, part := range splits {
				if splits[len(splits)-1-i] != mask-part || !impl.IsConnected(q, part) || len(impl.SharedVariables(q, part, mask-part)) == 0 {
					t.Errorf("JoinSplits(%v, %d) = %v", showQuery(q), mask, splits)
				}
			}
		}
	}
}

// The masks of a query end with the full one, which is included.
func TestMasksOutsideTheQuery(t *testing.T) {
	for _, q := range append(graphQueries(), queryOf("r(X)"), queryOf("r(XY) s(YZ)"), queryOf("r(X) s(Y)")) {
		full := 1<<len(q.Atoms) - 1
		for _, mask := range masksOutside(full) {
			expectNotConnected(t, q, mask)
			expectNeighbors(t, q, mask, 0)
		}
		expectNotConnected(t, q, 0)
		expectNeighbors(t, q, 0, 0)
		expectNeighbors(t, q, full, 0)
		for _, single := range []int{1, full/2 + 1} {
			expectTrees(t, q, single, nil, 1)
		}
	}
}

// An invalid query has no masks, even if some of its atoms are valid.
func TestGraphsOfInvalidQueries(t *testing.T) {
	for _, q := range invalidQueries() {
		expectFullMask(t, q, 0)
		expectConnectedMasks(t, q, nil)
		for mask := -2; mask <= 33; mask++ {
			expectNotConnected(t, q, mask)
			expectNeighbors(t, q, mask, 0)
		}
		for _, mask := range []int{1 << 31, 1 << 62, 1<<63 - 1, -1 << 63, -16} {
			expectNotConnected(t, q, mask)
			expectNeighbors(t, q, mask, 0)
		}
	}
}

// graphResults holds all results of the functions of the chapter.
type graphResults struct {
	numbers []int
	lists   [][]int
}

// resultsForGraph calls each function for the mask and for every mask of four atoms.
func resultsForGraph(q query, mask int) graphResults {
	r := graphResults{numbers: []int{impl.FullMask(q)}, lists: [][]int{impl.ConnectedMasks(q)}}
	masks := []int{mask}
	for m := -1; m <= 16; m++ {
		masks = append(masks, m)
	}
	for _, m := range masks {
		connected := slices.Index([]bool{false, true}, impl.IsConnected(q, m))
		r.numbers = append(r.numbers, impl.NeighborMask(q, m), connected, impl.CountJoinTrees(q, m))
		r.lists = append(r.lists, impl.MaskAtoms(m), impl.JoinSplits(q, m))
	}
	return r
}

// disjoint reports whether no two results share memory. It overwrites the results.
func (r graphResults) disjoint() bool {
	all := tableResults{lists: r.lists}
	return all.disjoint()
}

func TestGraphsLeaveArgumentsAlone(t *testing.T) {
	for _, q := range append(argumentQueries(), graphQueries()...) {
		for _, mask := range []int{-1 << 63, -1, 3, 15, 16, 1<<63 - 1} {
			s := surroundQuery(q)
			before := s.content()
			results := resultsForGraph(s.query, mask)
			if after := s.content(); after != before {
				t.Fatalf("the arguments\n%s\nbecame\n%s", before, after)
			}
			// The change of an argument changes no result, and no later call.
			shown := fmt.Sprint(results)
			s.spoil()
			if now := fmt.Sprint(results); now != shown {
				t.Fatalf("the results\n%s\nbecame\n%s", shown, now)
			}
			if now := fmt.Sprint(resultsForGraph(q, mask)); now != shown {
				t.Fatalf("the results\n%s\nof the same arguments became\n%s", shown, now)
			}
		}
	}
}

// The change of a result, its unused capacity included, changes neither an argument nor another result.
func TestGraphResultsAreNewMemory(t *testing.T) {
	for _, q := range append(argumentQueries(), graphQueries()...) {
		s := surroundQuery(q)
		before := s.content()
		results := resultsForGraph(s.query, 7)
		others := resultsForGraph(s.query, 7)
		shown := fmt.Sprint(others)
		if !results.disjoint() {
			t.Fatalf("two slices of the results for %v share memory", showQuery(q))
		}
		if after := s.content(); after != before {
			t.Fatalf("the change of a result changed the arguments\n%s\nto\n%s", before, after)
		}
		if now := fmt.Sprint(others); now != shown {
			t.Fatalf("the change of a result changed the other results\n%s\nto\n%s", shown, now)
		}
	}
}

func TestGraphSamplesAreAsNamed(t *testing.T) {
	// Two to the power of the number of pairs, for each number of atoms.
	if got := len(graphQueries()); got != 1+2+8+64 {
		t.Error("there are", got, "graphs")
	}
	for _, full := range []int{1, 3, 7, 15} {
		if slices.ContainsFunc(masksOutside(full), func(mask int) bool { return 0 <= mask && mask <= full }) || !slices.Contains(masksOutside(full), full+1) {
			t.Error("the masks outside", full, "are", masksOutside(full))
		}
	}
	for atoms, want := range map[int]int{1: 1, 2: 2, 3: 12, 4: 120} {
		texts := map[string]bool{}
		for _, tree := range joinTrees([]string{"X", "X", "X", "X"}, 1<<atoms-1) {
			texts[tree.text] = true
		}
		if len(texts) != want {
			t.Error("there are", len(texts), "trees of", atoms, "atoms")
		}
	}
}
