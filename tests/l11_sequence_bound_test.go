package tests

import (
	"fmt"
	"math"
	"math/big"
	"slices"
	"testing"

	"loop.example/g01921/impl"
)

// Promise 5, as far as bounds go: the size of a join is at most every bound that is computed from degree sequences.

// pairBounds holds the results of the three functions that bound a join of two tables.
type pairBounds struct {
	pair      int
	cauchy    int
	maxDegree int
}

func boundsOf(a []int, b []int) pairBounds {
	return pairBounds{impl.PairSequenceBound(a, b), impl.CauchyBound(a, b), impl.MaxDegreeBound(a, b)}
}

// referenceBounds returns the three bounds for two degree sequences.
func referenceBounds(a []int, b []int) pairBounds {
	squares := big.NewInt(int64(paired(a, a) * paired(b, b)))
	first, second := referenceTotal(a)*slices.Max(append([]int{0}, b...)), referenceTotal(b)*slices.Max(append([]int{0}, a...))
	return pairBounds{pair: paired(a, b), cauchy: int(squares.Sqrt(squares).Int64()), maxDegree: min(first, second)}
}

func referenceTotal(sequence []int) int {
	total := 0
	for _, degree := range sequence {
		total += degree
	}
	return total
}

// referencePower returns a power that may be greater than every int.
func referencePower(base int, exponent int) *big.Int {
	return new(big.Int).Exp(big.NewInt(int64(base)), big.NewInt(int64(exponent)), nil)
}

// isReferenceRoot reports whether the k-th power of the root is at most n, but that of the next number is not.
func isReferenceRoot(root int, n int, k int) bool {
	limit := big.NewInt(int64(n))
	return referencePower(root, k).Cmp(limit) <= 0 && referencePower(root+1, k).Cmp(limit) > 0
}

func expectBounds(t *testing.T, a []int, b []int, want pairBounds) {
	t.Helper()
	if got := boundsOf(a, b); got != want {
		t.Errorf("the bounds for %v and %v are %+v, want %+v", a, b, got, want)
	}
}

// expectBoundsBothWays also expects the same bounds for the sequences in the other order.
func expectBoundsBothWays(t *testing.T, a []int, b []int, want pairBounds) {
	t.Helper()
	expectBounds(t, a, b, want)
	expectBounds(t, b, a, want)
}

func expectNorm(t *testing.T, sequence []int, p int, want int) {
	t.Helper()
	if got := impl.NormPower(sequence, p); got != want {
		t.Errorf("NormPower(%v, %d) = %d, want %d", sequence, p, got, want)
	}
}

func expectRoot(t *testing.T, n int, k int, want int) {
	t.Helper()
	if got := impl.IntegerRoot(n, k); got != want {
		t.Errorf("IntegerRoot(%d, %d) = %d, want %d", n, k, got, want)
	}
}

func expectSequence(t *testing.T, total int, largest int, want []int) {
	t.Helper()
	expectVariables(t, fmt.Sprintf("SequenceFromNorms(%d, %d)", total, largest), impl.SequenceFromNorms(total, largest), want)
}

// badNorms returns numbers outside 1 to 3, among them some whose low bits are inside.
func badNorms() []int {
	return append(badArities(), 1<<8+1, 1<<8+3, 1<<16+1, 1<<32+1, 1<<32+3, 1<<62+1, math.MinInt+1, math.MinInt+3, -1<<32+3, -2, 6, 9)
}

// badRadicands returns numbers outside 0 to 1000000.
func badRadicands() []int {
	return []int{-1, -2, -8, -1000000, -1000001, 1000001, 1000002, 1002001, 1030301, 10000000, 1 << 20, 1 << 31, 1 << 32, 1<<32 + 4, 1 << 40, 1 << 62, -1 << 32, -1<<32 + 4, math.MaxInt, math.MaxInt - 1, math.MinInt, math.MinInt + 1, math.MinInt + 8}
}

func TestPairBoundValues(t *testing.T) {
	for _, c := range []struct {
		a, b                    string
		pair, cauchy, maxDegree int
	}{
		{"21", "21", 5, 5, 6},
		{"321", "21", 8, 8, 9},
		{"321", "321", 14, 14, 18},
		{"2", "3", 6, 6, 6},
		{"1", "1", 1, 1, 1},
		{"11", "1", 1, 1, 1},
		{"22", "1", 2, 2, 2},
		{"31", "22", 8, 8, 8},
		{"41", "2111", 9, 10, 10},
		{"411", "21", 9, 9, 12},
		{"51", "11", 6, 7, 6},
		{"3", "11111", 3, 6, 3},
		{"8", "8", 64, 64, 64},
		{"8", "11111111", 8, 22, 8},
		{"71", "71", 50, 50, 56},
		{"44", "44", 32, 32, 32},
		{"2222", "11111111", 8, 11, 8},
		{"11111111", "11111111", 8, 8, 8},
		{"611", "11", 7, 8, 8},
		{"332", "22211", 16, 17, 16},
		{"", "", 0, 0, 0},
		{"", "1", 0, 0, 0},
		{"", "8", 0, 0, 0},
		{"", "11111111", 0, 0, 0},
		// One element or two too many, in total or at the end.
		{"9", "1", 0, 0, 0},
		{"81", "1", 0, 0, 0},
		{"12", "21", 0, 0, 0},
		{"20", "2", 0, 0, 0},
		{"111111111", "8", 0, 0, 0},
		{"9", "9", 0, 0, 0},
		{"9", "", 0, 0, 0},
	} {
		expectBoundsBothWays(t, digitsIn(c.a), digitsIn(c.b), pairBounds{c.pair, c.cauchy, c.maxDegree})
	}
}

func TestPairBoundsAgainstReference(t *testing.T) {
	for _, a := range degreeSequences() {
		for _, b := range degreeSequences() {
			expectBounds(t, a, b, referenceBounds(a, b))
		}
	}
}

// The edge case: sequences of different lengths. The elements that only the longer one has do not count for the pairs, but count for the others.
func TestSequencesOfDifferentLengths(t *testing.T) {
	for _, short := range degreeSequences() {
		for _, long := range degreeSequences() {
			if len(short) >= len(long) {
				continue
			}
			want := referenceBounds(short, long)
			expectBoundsBothWays(t, short, long, want)
			if cut := impl.PairSequenceBound(short, long[:len(short)]); cut != want.pair {
				t.Errorf("the pairs of %v and %v are %d, but those of the part of the same length are %d", short, long, want.pair, cut)
			}
			// A list that is no degree sequence only beyond the end of the other one is refused too.
			for _, wrong := range []int{0, -1, 9, math.MaxInt, math.MinInt} {
				expectBoundsBothWays(t, short, replaced(long, len(long)-1, wrong), pairBounds{})
				expectBoundsBothWays(t, short, append(slices.Clone(long), wrong), pairBounds{})
			}
		}
	}
	for length := 1; length <= 8; length++ {
		for other := 1; other <= 8; other++ {
			shortest := min(length, other)
			root := impl.IntegerRoot(length*other, 2)
			expectBounds(t, repeated(1, length), repeated(1, other), pairBounds{shortest, root, shortest})
		}
		expectBoundsBothWays(t, repeated(1, length), []int{8}, pairBounds{8, impl.IntegerRoot(64*length, 2), 8})
		expectBoundsBothWays(t, repeated(1, length), nil, pairBounds{})
	}
}

// The pairs are never more than the other bounds state.
func TestPairsAreTheLeastBound(t *testing.T) {
	for _, a := range degreeSequences() {
		for _, b := range degreeSequences() {
			got := boundsOf(a, b)
			product := impl.SequenceTotal(a) * impl.SequenceTotal(b)
			if got.pair > min(got.cauchy, got.maxDegree) || max(got.cauchy, got.maxDegree) > product {
				t.Errorf("the bounds for %v and %v are %+v", a, b, got)
			}
		}
		squares := impl.NormPower(a, 2)
		if got := boundsOf(a, a); got.pair != squares || got.cauchy != squares {
			t.Errorf("the squares of %v are %d, but the bounds for a pair of them are %+v", a, squares, got)
		}
	}
}

// A sequence that dominates another one has no lesser bound.
func TestBoundsGrowWithSequences(t *testing.T) {
	sequences := degreeSequences()
	for _, a := range sequences {
		for _, b := range sequences {
			if !impl.DominatesSequence(a, b) {
				continue
			}
			for p := 1; p <= impl.MaxNorm; p++ {
				if impl.NormPower(a, p) < impl.NormPower(b, p) {
					t.Errorf("%v dominates %v, but its norm %d is less", a, b, p)
				}
			}
			for _, other := range sequences {
				more, fewer := boundsOf(a, other), boundsOf(b, other)
				if more.pair < fewer.pair || more.cauchy < fewer.cauchy || more.maxDegree < fewer.maxDegree {
					t.Errorf("%v dominates %v, but with %v the bounds are %+v and %+v", a, b, other, more, fewer)
				}
			}
		}
	}
}

// worstSequence returns the sequence that stands for all of the same total and the same first element.
func worstSequence(sequence []int) []int {
	return impl.SequenceFromNorms(impl.SequenceTotal(sequence), impl.TopDegrees(sequence, 1))
}

// expectJoinWithinBounds compares the size of a join of two atoms with every bound, and returns how many of the bounds it reaches.
func expectJoinWithinBounds(t *testing.T, db database, q query) int {
	t.Helper()
	a, b := joinSequences(db, q)
	size := impl.SubquerySize(db, q, 3)
	exact, worst := boundsOf(a, b), boundsOf(worstSequence(a), worstSequence(b))
	reached := 0
	for _, bound := range []int{exact.pair, exact.cauchy, exact.maxDegree, worst.pair, worst.cauchy, worst.maxDegree} {
		if size > bound {
			t.Errorf("%v has %d rows in %v, but the bounds are %+v and %+v", showQuery(q), size, showDatabase(db), exact, worst)
		} else if size == bound {
			reached++
		}
	}
	return reached
}

func TestJoinsAreWithinBounds(t *testing.T) {
	reached := 0
	for db, q := range arbitraryJoins {
		reached += expectJoinWithinBounds(t, db, q)
	}
	if reached < 1000 {
		t.Error("only", reached, "bounds are reached")
	}
}

// All pairs of tables of two columns of two values.
func TestSmallJoinsAreWithinBounds(t *testing.T) {
	bodies := subsetsOf(wordsOfLength("05", 2))
	for _, first := range bodies {
		for _, second := range bodies {
			db := databaseFrom("r2:" + first + ";s2:" + second)
			for _, query := range []string{"r(XY) s(YZ)", "r(XY) s(XZ)", "r(XY) s(XY)", "r(XY) s(YX)", "r(XY) s(ZU)", "s(XY) r(ZY)", "r(XY) r(YZ)"} {
				expectJoinWithinBounds(t, db, queryOf(query))
			}
		}
	}
}

// Two tables whose greatest groups meet have a join that is as large as the pairs state.
func TestPairBoundIsReached(t *testing.T) {
	for _, first := range degreeSequences() {
		for _, second := range degreeSequences() {
			db, q := databaseOf(tableWithDegrees("r", 1, 1, first), tableWithDegrees("s", 0, 1, second)), queryOf("r(XY) s(YZ)")
			expectJoinWithinBounds(t, db, q)
			if size, pairs := impl.SubquerySize(db, q, 3), impl.PairSequenceBound(first, second); size != pairs {
				t.Errorf("the join in %v has %d rows, but the pairs are %d", showDatabase(db), size, pairs)
			}
		}
	}
}

func TestNormPowerValues(t *testing.T) {
	for _, c := range []struct {
		sequence             string
		total, squares, cube int
	}{
		{"21", 3, 5, 9},
		{"321", 6, 14, 36},
		{"1", 1, 1, 1},
		{"2", 2, 4, 8},
		{"3", 3, 9, 27},
		{"8", 8, 64, 512},
		{"71", 8, 50, 344},
		{"44", 8, 32, 128},
		{"53", 8, 34, 152},
		{"2222", 8, 16, 32},
		{"11111111", 8, 8, 8},
		{"", 0, 0, 0},
		{"9", 0, 0, 0},
		{"81", 0, 0, 0},
		{"111111111", 0, 0, 0},
		{"12", 0, 0, 0},
		{"20", 0, 0, 0},
		{"0", 0, 0, 0},
	} {
		for p, want := range []int{0, c.total, c.squares, c.cube, 0} {
			expectNorm(t, digitsIn(c.sequence), p, want)
		}
	}
}

func TestNormsOfAllSequences(t *testing.T) {
	for _, sequence := range degreeSequences() {
		expectNorm(t, sequence, 1, impl.SequenceTotal(sequence))
		for p := 1; p <= 3; p++ {
			sum := new(big.Int)
			for _, degree := range sequence {
				sum.Add(sum, referencePower(degree, p))
			}
			expectNorm(t, sequence, p, int(sum.Int64()))
		}
		for _, p := range badNorms() {
			expectNorm(t, sequence, p, 0)
		}
	}
}

func TestBoundsOfInvalidSequences(t *testing.T) {
	for _, list := range notDegreeSequences() {
		for _, p := range append(badNorms(), 1, 2, 3) {
			expectNorm(t, list, p, 0)
		}
		for _, other := range slices.Concat(degreeSequences(), notDegreeSequences()) {
			expectBoundsBothWays(t, list, other, pairBounds{})
		}
	}
	for _, list := range shortLists() {
		if impl.IsDegreeSequence(list) {
			expectBoundsBothWays(t, list, []int{3, 2, 1, 1}, referenceBounds(list, []int{3, 2, 1, 1}))
			continue
		}
		expectNorm(t, list, 1, 0)
		expectNorm(t, list, 2, 0)
		expectNorm(t, list, 3, 0)
		expectBoundsBothWays(t, list, []int{3, 2, 1, 1}, pairBounds{})
	}
}

func TestIntegerRootValues(t *testing.T) {
	for _, c := range []struct{ n, k, want int }{
		{27, 3, 3}, {26, 3, 2}, {28, 3, 3}, {15, 2, 3}, {16, 2, 4}, {17, 2, 4},
		{0, 1, 0}, {0, 2, 0}, {0, 3, 0}, {1, 1, 1}, {1, 2, 1}, {1, 3, 1}, {2, 1, 2}, {2, 2, 1}, {2, 3, 1}, {3, 2, 1}, {4, 2, 2}, {7, 3, 1}, {8, 3, 2}, {8, 2, 2}, {9, 2, 3},
		{64, 1, 64}, {64, 2, 8}, {64, 3, 4}, {4096, 2, 64}, {4096, 3, 16}, {4095, 2, 63}, {4095, 3, 15},
		// The limit, which is a square and a cube, and the number before it.
		{1000000, 1, 1000000}, {1000000, 2, 1000}, {1000000, 3, 100}, {999999, 1, 999999}, {999999, 2, 999}, {999999, 3, 99}, {998001, 2, 999}, {998000, 2, 998}, {970299, 3, 99}, {970298, 3, 98},
		{1000001, 1, -1}, {1000001, 2, -1}, {1000001, 3, -1}, {-1, 1, -1}, {-1, 2, -1}, {-1, 3, -1}, {-8, 3, -1},
		{16, 0, -1}, {16, 4, -1}, {16, -1, -1}, {16, -2, -1}, {0, 0, -1}, {1, 0, -1}, {1, 4, -1}, {0, 4, -1}, {1000000, 4, -1}, {1000000, 0, -1}, {-1, 0, -1}, {1000001, 4, -1},
	} {
		expectRoot(t, c.n, c.k, c.want)
	}
}

// Each square and each cube up to the limit with the numbers next to it, and numbers in between.
func TestIntegerRootAtPowers(t *testing.T) {
	numbers := []int{0}
	for base := 1; base <= 1000; base++ {
		for _, power := range []int{base * base, base * base * base} {
			numbers = append(numbers, power-1, power, power+1)
		}
	}
	for n := 61; n < 1000000; n += 61 {
		numbers = append(numbers, n)
	}
	for _, n := range numbers {
		for k := 1; k <= 3 && n <= 1000000; k++ {
			if got := impl.IntegerRoot(n, k); !isReferenceRoot(got, n, k) {
				t.Errorf("IntegerRoot(%d, %d) = %d", n, k, got)
			}
		}
	}
}

// Each number up to 20000. The root grows by one at each power.
func TestIntegerRootOfAllNumbers(t *testing.T) {
	for k := 1; k <= 3; k++ {
		root := 0
		for n := range 20001 {
			if referencePower(root+1, k).Cmp(big.NewInt(int64(n))) == 0 {
				root++
			}
			expectRoot(t, n, k, root)
		}
	}
}

func TestRootsOutOfRange(t *testing.T) {
	for _, n := range badRadicands() {
		for _, k := range append(badNorms(), 1, 2, 3) {
			expectRoot(t, n, k, -1)
		}
	}
	for _, n := range []int{0, 1, 2, 7, 8, 9, 16, 4096, 999999, 1000000} {
		for _, k := range badNorms() {
			expectRoot(t, n, k, -1)
		}
	}
}

func TestSequenceFromNormsValues(t *testing.T) {
	for _, c := range []struct {
		total, largest int
		want           string
	}{
		{5, 2, "221"}, {0, 2, ""}, {3, 0, ""}, {3, 1, "111"}, {3, 2, "21"}, {3, 3, "3"}, {3, 4, "3"}, {1, 1, "1"}, {1, 8, "1"}, {0, 1, ""}, {0, 8, ""},
		{6, 4, "42"}, {6, 3, "33"}, {7, 3, "331"}, {7, 4, "43"}, {7, 7, "7"}, {7, 6, "61"},
		{8, 1, "11111111"}, {8, 2, "2222"}, {8, 3, "332"}, {8, 4, "44"}, {8, 5, "53"}, {8, 6, "62"}, {8, 7, "71"}, {8, 8, "8"}, {8, 9, "8"}, {8, 100, "8"},
		{8, math.MaxInt, "8"}, {8, math.MaxInt - 1, "8"}, {0, math.MaxInt, ""}, {8, 1 << 32, "8"}, {5, 1<<32 + 2, "5"}, {5, 256, "5"}, {5, 257, "5"},
		{9, 1, ""}, {9, 3, ""}, {9, 9, ""}, {9, math.MaxInt, ""}, {-1, 1, ""}, {-1, -1, ""}, {-4, -2, ""}, {4, -1, ""}, {4, -2, ""}, {8, 0, ""}, {0, 0, ""}, {0, -1, ""},
	} {
		expectSequence(t, c.total, c.largest, digitsIn(c.want))
	}
}

// The sequence is the one that dominates all of the same total whose elements are not greater than the largest.
func TestSequenceFromNormsDominates(t *testing.T) {
	for total := range 9 {
		for _, largest := range []int{1, 2, 3, 4, 5, 6, 7, 8, 9, 10, 64, 1 << 32, math.MaxInt} {
			var possible [][]int
			for _, sequence := range degreeSequences() {
				if referenceTotal(sequence) == total && (total == 0 || sequence[0] <= largest) {
					possible = append(possible, sequence)
				}
			}
			got := impl.SequenceFromNorms(total, largest)
			if !containsList(possible, got) {
				t.Errorf("SequenceFromNorms(%d, %d) = %v", total, largest, got)
			}
			for _, sequence := range possible {
				expectDominates(t, got, sequence, true)
			}
		}
	}
}

// A sequence is dominated by the one of its total and its first element.
func TestSequencesAreDominatedByTheirNorms(t *testing.T) {
	for _, sequence := range degreeSequences() {
		expectDominates(t, worstSequence(sequence), sequence, true)
		if worst := worstSequence(sequence); impl.SequenceTotal(worst) != impl.SequenceTotal(sequence) || impl.TopDegrees(worst, 1) != impl.TopDegrees(sequence, 1) {
			t.Errorf("%v has another total or another first element than %v", worst, sequence)
		}
	}
}

func TestSequencesFromBadNorms(t *testing.T) {
	for _, total := range []int{-1, -2, -8, -9, 9, 10, 16, 64, 256 + 8, 1<<32 + 8, -1 << 32, -1<<32 + 8, 1 << 62, math.MaxInt, math.MinInt, math.MinInt + 8} {
		for _, largest := range someK() {
			expectSequence(t, total, largest, nil)
		}
	}
	for total := range 9 {
		for _, largest := range []int{0, -1, -2, -8, -256 + 1, -1 << 32, -1<<32 + 1, math.MinInt, math.MinInt + 1} {
			expectSequence(t, total, largest, nil)
		}
	}
}

// boundResults shows the results of all functions for two lists.
func boundResults(a []int, b []int) string {
	results := fmt.Sprint(boundsOf(a, b), boundsOf(b, a), impl.IntegerRoot(len(a), 2))
	for p := range 5 {
		results += fmt.Sprint(" ", impl.NormPower(a, p), impl.NormPower(b, p), impl.SequenceFromNorms(len(a), p))
	}
	return results
}

func TestBoundsLeaveArgumentsAlone(t *testing.T) {
	lists := slices.Concat(argumentLists(), degreeSequences())
	for _, first := range lists {
		for _, second := range lists {
			a, aMemory := withMargin(first)
			b, bMemory := withMargin(second)
			before := fmt.Sprint(aMemory, bMemory)
			results := boundResults(a, b)
			if after := fmt.Sprint(aMemory, bMemory); after != before {
				t.Fatalf("the arguments %s became %s", before, after)
			}
			// The change of an argument changes no later call.
			clear(aMemory)
			clear(bMemory)
			if now := boundResults(first, second); now != results {
				t.Fatalf("the results\n%s\nof the same arguments became\n%s", results, now)
			}
		}
	}
}

// The same list as both arguments, and two lists that share memory.
func TestBoundsOfSharedLists(t *testing.T) {
	for _, sequence := range degreeSequences() {
		for from := range sequence {
			for to := from; to <= len(sequence); to++ {
				part := sequence[from:to]
				expectBoundsBothWays(t, sequence, part, referenceBounds(sequence, slices.Clone(part)))
			}
		}
		expectBounds(t, sequence, sequence, referenceBounds(sequence, slices.Clone(sequence)))
	}
}

// The change of a result, its unused capacity included, changes no other result.
func TestSequencesFromNormsAreNewMemory(t *testing.T) {
	for total := -1; total <= 9; total++ {
		for largest := range 10 {
			first, second := impl.SequenceFromNorms(total, largest), impl.SequenceFromNorms(total, largest)
			want := slices.Clone(second)
			clear(first[:cap(first)])
			if !slices.Equal(second, want) {
				t.Fatalf("two results of SequenceFromNorms(%d, %d) share memory", total, largest)
			}
			expectSequence(t, total, largest, want)
		}
	}
}

func TestBoundSamplesAreAsNamed(t *testing.T) {
	for _, p := range badNorms() {
		if 1 <= p && p <= 3 {
			t.Errorf("the sample %d is a norm", p)
		}
	}
	for _, n := range badRadicands() {
		if 0 <= n && n <= 1000000 {
			t.Errorf("the sample %d has a root", n)
		}
	}
	if impl.MaxNorm != 3 {
		t.Error("MaxNorm is", impl.MaxNorm)
	}
}
