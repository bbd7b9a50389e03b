package tests

import (
	"fmt"
	"math"
	"slices"
	"strings"
	"testing"
	"unsafe"

	"loop.example/g01921/impl"
)

// Promise 2, as far as locations go: they can be parsed from their string format, and no other strings are accepted.

// referenceSizes returns the sizes of the classes 0 to MaxClass.
func referenceSizes() []int {
	return []int{0, 1, 4, 16, 64, 256, 1024, 4096}
}

// referenceClass returns the least class whose size is at least n, or -1.
func referenceClass(n int) int {
	if n < 0 {
		return -1
	}
	return slices.IndexFunc(referenceSizes(), func(size int) bool { return size >= n })
}

func isReferenceLocation(location []int) bool {
	return len(location) <= 16 && !slices.ContainsFunc(location, func(class int) bool { return class < 0 || class > 7 })
}

// nonClasses returns numbers that are no class, among them some whose low bits are one.
func nonClasses() []int {
	return []int{
		-1, -2, -7, -48, -8, 8, 9, 10, 31, 32, 33, 48, 55, 63, 64, 65, 255, 256, 257, -255, -256,
		1 << 16, 1<<16 + 1, 1 << 32, 1<<32 + 7, 1<<32 - 1, -1 << 32, 1 << 62, math.MaxInt, math.MinInt, math.MinInt + 7,
	}
}

// repeated returns a list of this length in which every element is class.
func repeated(class int, length int) []int {
	return slices.Repeat([]int{class}, length)
}

// replaced returns a copy of the list in which one element is class.
func replaced(list []int, at int, class int) []int {
	changed := slices.Clone(list)
	changed[at] = class
	return changed
}

// locationSamples returns all short locations and longer ones up to the limit.
func locationSamples() [][]int {
	samples := [][]int{nil, {}}
	shorter := [][]int{{}}
	for range 4 {
		var longer [][]int
		for _, prefix := range shorter {
			for class := 0; class <= 7; class++ {
				longer = append(longer, append(slices.Clone(prefix), class))
			}
		}
		samples = append(samples, longer...)
		shorter = longer
	}
	for length := 5; length <= 16; length++ {
		ascending := make([]int, length)
		for i := range ascending {
			ascending[i] = i % 8
		}
		samples = append(samples, repeated(0, length), repeated(7, length), ascending)
	}
	return samples
}

// nonLocations returns lists that are too long or have an element that is no class.
func nonLocations() [][]int {
	samples := [][]int{repeated(0, 17), repeated(7, 17), repeated(1, 18), repeated(3, 1000), replaced(repeated(0, 17), 16, 8)}
	for _, wrong := range nonClasses() {
		for _, length := range []int{1, 2, 3, 15, 16, 17} {
			for at := range length {
				samples = append(samples, replaced(repeated(2, length), at, wrong))
			}
		}
	}
	return samples
}

func expectLocation(t *testing.T, s string, want []int, wantOK bool) {
	t.Helper()
	location, ok := impl.ParseLocation(s)
	if !slices.Equal(location, want) || ok != wantOK {
		t.Errorf("ParseLocation(%q) = %v, %v, want %v, %v", s, location, ok, want, wantOK)
	}
}

func TestSizeClassLimits(t *testing.T) {
	if impl.MaxClass != 7 || impl.MaxSize != 4096 || impl.MaxLocationLength != 16 {
		t.Error("limits", impl.MaxClass, impl.MaxSize, impl.MaxLocationLength)
	}
}

func TestSizeClassValues(t *testing.T) {
	for _, c := range []struct{ n, want int }{
		{5, 3}, {0, 0}, {1, 1}, {2, 2}, {3, 2}, {4, 2}, {16, 3}, {17, 4}, {64, 4}, {65, 5}, {256, 5}, {257, 6},
		{1024, 6}, {1025, 7}, {4095, 7}, {4096, 7}, {4097, -1}, {-1, -1}, {math.MaxInt, -1}, {math.MinInt, -1},
	} {
		if got := impl.SizeClass(c.n); got != c.want {
			t.Errorf("SizeClass(%d) = %d, want %d", c.n, got, c.want)
		}
	}
}

func TestSizeClassAgainstReference(t *testing.T) {
	numbers := nearPowers()
	for n := -5000; n <= 20000; n++ {
		numbers = append(numbers, n)
	}
	for _, n := range append(numbers, nonClasses()...) {
		for _, signed := range []int{n, -n} {
			class, size := referenceClass(signed), -1
			if class >= 0 {
				size = referenceSizes()[class]
			}
			if got := impl.SizeClass(signed); got != class {
				t.Errorf("SizeClass(%d) = %d, want %d", signed, got, class)
			}
			if got := impl.RoundUpSize(signed); got != size {
				t.Errorf("RoundUpSize(%d) = %d, want %d", signed, got, size)
			}
		}
	}
}

// A size equal to a class size has this class, the next greater size has the next class.
func TestSizesEqualToClassSizes(t *testing.T) {
	for class, size := range referenceSizes() {
		next, nextSize := class+1, -1
		if next > 7 {
			next = -1
		} else {
			nextSize = referenceSizes()[next]
		}
		if impl.SizeClass(size) != class || impl.RoundUpSize(size) != size {
			t.Errorf("size %d: class %d, rounded up to %d", size, impl.SizeClass(size), impl.RoundUpSize(size))
		}
		if impl.SizeClass(size+1) != next || impl.RoundUpSize(size+1) != nextSize {
			t.Errorf("size %d: class %d, rounded up to %d", size+1, impl.SizeClass(size+1), impl.RoundUpSize(size+1))
		}
		if impl.SizeClass(impl.ClassSize(class)) != class {
			t.Errorf("the class of the size of class %d is %d", class, impl.SizeClass(impl.ClassSize(class)))
		}
	}
}

func TestClassSize(t *testing.T) {
	for class, want := range referenceSizes() {
		if got := impl.ClassSize(class); got != want {
			t.Errorf("ClassSize(%d) = %d, want %d", class, got, want)
		}
	}
	outside := nonClasses()
	for n := 1; n <= 300; n++ {
		outside = append(outside, -n, 7+n)
	}
	for _, n := range outside {
		if got := impl.ClassSize(n); got != -1 {
			t.Errorf("ClassSize(%d) = %d, want -1", n, got)
		}
	}
}

func TestRoundUpSizeValues(t *testing.T) {
	for _, c := range []struct{ n, want int }{
		{5, 16}, {0, 0}, {1, 1}, {2, 4}, {4, 4}, {16, 16}, {17, 64}, {1025, 4096}, {4095, 4096}, {4096, 4096},
		{4097, -1}, {-1, -1}, {math.MaxInt, -1}, {math.MinInt, -1},
	} {
		if got := impl.RoundUpSize(c.n); got != c.want {
			t.Errorf("RoundUpSize(%d) = %d, want %d", c.n, got, c.want)
		}
	}
}

func TestIsLocation(t *testing.T) {
	for _, location := range locationSamples() {
		if !impl.IsLocation(location) {
			t.Errorf("IsLocation(%v) = false", location)
		}
	}
	for _, list := range nonLocations() {
		if impl.IsLocation(list) {
			t.Errorf("IsLocation(%v) = true", list)
		}
	}
}

func TestLocationSizes(t *testing.T) {
	if sizes := impl.LocationSizes([]int{0, 1, 2, 3, 4, 5, 6, 7, 0}); !slices.Equal(sizes, append(referenceSizes(), 0)) {
		t.Error("the sizes of all classes", sizes)
	}
	for _, location := range locationSamples() {
		var want []int
		for _, class := range location {
			want = append(want, referenceSizes()[class])
		}
		if got := impl.LocationSizes(location); !slices.Equal(got, want) {
			t.Errorf("LocationSizes(%v) = %v, want %v", location, got, want)
		}
	}
	for _, list := range nonLocations() {
		if got := impl.LocationSizes(list); len(got) != 0 {
			t.Errorf("LocationSizes(%v) = %v, but the list is not a location", list, got)
		}
	}
}

func TestDominatesLocationValues(t *testing.T) {
	for _, c := range []struct {
		a, b []int
		want bool
	}{
		{[]int{2, 1}, []int{2, 0}, true},
		{[]int{2, 1}, []int{2, 1}, true},
		{[]int{2, 0}, []int{2, 1}, false},
		{[]int{1, 7}, []int{2, 0}, false},
		{[]int{7, 7}, []int{0, 0}, true},
		{[]int{0}, []int{0}, true},
		{nil, nil, true},
		{nil, []int{}, true},
		{[]int{}, nil, true},
		{[]int{2, 1}, []int{2}, false},
		{[]int{2}, []int{2, 1}, false},
		{[]int{2}, nil, false},
		{nil, []int{0}, false},
		{nil, []int{-1}, false},
		// The lists need not be locations.
		{[]int{-5}, []int{-6}, true},
		{[]int{-6}, []int{-5}, false},
		{[]int{100}, []int{99}, true},
		{[]int{99}, []int{100}, false},
		{[]int{1 << 32}, []int{1}, true},
		{[]int{1}, []int{1 << 32}, false},
		{[]int{math.MaxInt}, []int{math.MinInt}, true},
		{[]int{math.MinInt}, []int{math.MaxInt}, false},
		{[]int{math.MinInt}, []int{math.MinInt}, true},
		{repeated(9, 100), repeated(9, 100), true},
		{repeated(9, 100), repeated(9, 101), false},
		{repeated(9, 17), replaced(repeated(9, 17), 16, 10), false},
		{replaced(repeated(9, 17), 16, 10), repeated(9, 17), true},
	} {
		if got := impl.DominatesLocation(c.a, c.b); got != c.want {
			t.Errorf("DominatesLocation(%v, %v) = %v, want %v", c.a, c.b, got, c.want)
		}
	}
}

func TestDominatesLocationAgainstReference(t *testing.T) {
	lists := slices.DeleteFunc(locationSamples(), func(location []int) bool { return len(location) == 4 })
	lists = append(lists, []int{-1}, []int{8, -1}, []int{math.MinInt, 0}, []int{math.MaxInt, 0}, repeated(8, 17), repeated(7, 17))
	for _, a := range lists {
		for _, b := range lists {
			want := len(a) == len(b)
			for i := range min(len(a), len(b)) {
				want = want && b[i] <= a[i]
			}
			if got := impl.DominatesLocation(a, b); got != want {
				t.Errorf("DominatesLocation(%v, %v) = %v, want %v", a, b, got, want)
			}
		}
	}
}

func TestFormatLocationValues(t *testing.T) {
	for _, c := range []struct {
		location []int
		want     string
	}{
		{[]int{0, 2, 7}, "027"},
		{[]int{0}, "0"},
		{[]int{7}, "7"},
		{nil, ""},
		{[]int{}, ""},
		{[]int{0, 1, 2, 3, 4, 5, 6, 7, 7, 6, 5, 4, 3, 2, 1, 0}, "0123456776543210"},
		{[]int{8}, ""},
		{[]int{10}, ""},
		{[]int{-1}, ""},
		{[]int{0, 2, 8}, ""},
		{repeated(0, 16), "0000000000000000"},
		{repeated(0, 17), ""},
	} {
		if got := impl.FormatLocation(c.location); got != c.want {
			t.Errorf("FormatLocation(%v) = %q, want %q", c.location, got, c.want)
		}
	}
	for _, list := range nonLocations() {
		if got := impl.FormatLocation(list); got != "" {
			t.Errorf("FormatLocation(%v) = %q, but the list is not a location", list, got)
		}
	}
}

func TestLocationRoundTrip(t *testing.T) {
	for _, location := range locationSamples() {
		s := impl.FormatLocation(location)
		if want := strings.Trim(strings.ReplaceAll(fmt.Sprint(location), " ", ""), "[]"); s != want {
			t.Errorf("FormatLocation(%v) = %q, want %q", location, s, want)
		}
		expectLocation(t, s, location, true)
	}
}

func TestParseLocationLimits(t *testing.T) {
	expectLocation(t, "", nil, true)
	expectLocation(t, "031", []int{0, 3, 1}, true)
	expectLocation(t, "0", []int{0}, true)
	expectLocation(t, "7", []int{7}, true)
	expectLocation(t, "8", nil, false)
	expectLocation(t, "08", nil, false)
	for length := range 40 {
		zeros, sevens := strings.Repeat("0", length), strings.Repeat("7", length)
		if length <= 16 {
			expectLocation(t, zeros, repeated(0, length), true)
			expectLocation(t, sevens, repeated(7, length), true)
		} else {
			expectLocation(t, zeros, nil, false)
			expectLocation(t, sevens, nil, false)
		}
	}
	expectLocation(t, strings.Repeat("1", 1<<16), nil, false)
}

func TestParseLocationRejects(t *testing.T) {
	for _, s := range []string{
		" ", "-", "+", "-1", "+1", "1-", "0 1", "0,1", "01 ", " 01", "01\n", "\n", "\x00", "0\x00", "\x0001", "\x01", "\x07",
		"/", ":", "a", "0a", "0x1", "[0]", "x", "9", "09", "90", "18", "81", "\xb0", "\xb7", "0\xb1", "\xff", "0\xff",
		"é", "１", "0１", "۱", "०", "²", "0\u0130", "\U00010030",
	} {
		expectLocation(t, s, nil, false)
	}
}

// Each byte at each position is accepted exactly if it is a digit from 0 to 7.
func TestParseLocationBytes(t *testing.T) {
	for length := 1; length <= 16; length++ {
		for at := range length {
			for value := range 256 {
				text := []byte(strings.Repeat("5", length))
				text[at] = byte(value)
				if '0' <= value && value <= '7' {
					expectLocation(t, string(text), replaced(repeated(5, length), at, value-'0'), true)
				} else {
					expectLocation(t, string(text), nil, false)
				}
			}
		}
	}
}

// Every short string is accepted exactly if some location is formatted so.
func TestParseLocationAcceptsNothingElse(t *testing.T) {
	formats := map[string][]int{}
	for _, location := range locationSamples() {
		var s strings.Builder
		for _, class := range location {
			s.WriteString(string("01234567"[class]))
		}
		formats[s.String()] = location
	}
	alphabets := []struct {
		alphabet  string
		maxLength int
	}{{allBytes(), 2}, {"01234567", 4}, {"/-+ 01789:", 4}}
	for _, a := range alphabets {
		for _, s := range stringsOver(a.alphabet, a.maxLength) {
			want, wantOK := formats[s]
			expectLocation(t, s, want, wantOK)
		}
	}
}

// withMargin returns a list with these elements, and the memory around it, unused capacity included.
func withMargin(list []int) ([]int, []int) {
	memory := slices.Concat([]int{5, 6}, list, []int{7, 1, 2, 3})
	return memory[2 : 2+len(list)], memory
}

// locationResults calls every function of the chapter and returns all results.
func locationResults(a []int, b []int, s string) string {
	var results strings.Builder
	fmt.Fprintln(&results, impl.IsLocation(a), impl.LocationSizes(a), impl.DominatesLocation(a, b), impl.FormatLocation(a))
	fmt.Fprintln(&results, impl.IsLocation(b), impl.LocationSizes(b), impl.DominatesLocation(b, a), impl.FormatLocation(b))
	fmt.Fprintln(&results, impl.SizeClass(len(a)), impl.ClassSize(len(b)), impl.RoundUpSize(len(a)))
	location, ok := impl.ParseLocation(s)
	fmt.Fprintln(&results, location, ok)
	return results.String()
}

func TestLocationsLeaveArgumentsAlone(t *testing.T) {
	lists := [][]int{nil, {}, {3}, {0, 2, 7}, {7, 2, 0}, {0, 8}, {-1, 2}, repeated(4, 16), repeated(4, 17)}
	for _, first := range lists {
		for _, second := range lists {
			for _, text := range []string{"", "031", "0123456776543210", "08", "x"} {
				a, aMemory := withMargin(first)
				b, bMemory := withMargin(second)
				// A string over bytes that the test can change afterwards.
				sMemory := []byte(text)
				s := unsafe.String(unsafe.SliceData(sMemory), len(sMemory))
				aBefore, bBefore := slices.Clone(aMemory), slices.Clone(bMemory)
				before := locationResults(a, b, s)
				if !slices.Equal(aMemory, aBefore) || !slices.Equal(bMemory, bBefore) || string(sMemory) != text {
					t.Errorf("an argument was changed: %v, %v, %q became %v, %v, %q", aBefore, bBefore, text, aMemory, bMemory, sMemory)
				}
				clear(aMemory)
				clear(bMemory)
				for i := range sMemory {
					sMemory[i] = '6'
				}
				locationResults(a, b, s)
				if again := locationResults(first, second, text); again != before {
					t.Errorf("%v, %v, %q: results\n%s\nbecame\n%s", first, second, text, before, again)
				}
			}
		}
	}
}

// The change of an argument changes no result.
func TestLocationResultsOutliveArguments(t *testing.T) {
	list := []int{0, 2, 7}
	memory := []byte("027")
	sizes, text := impl.LocationSizes(list), impl.FormatLocation(list)
	location, _ := impl.ParseLocation(unsafe.String(unsafe.SliceData(memory), len(memory)))
	clear(list)
	copy(memory, "555")
	if !slices.Equal(sizes, []int{0, 4, 4096}) || text != "027" || !slices.Equal(location, []int{0, 2, 7}) {
		t.Errorf("the change of an argument changed a result: %v, %q, %v", sizes, text, location)
	}
}

// The change of a result, its unused capacity included, changes neither an argument nor another result.
func TestLocationResultsAreNewMemory(t *testing.T) {
	list := []int{0, 2, 7}
	overwrite := func(result []int) {
		for i := range result[:cap(result)] {
			result[:cap(result)][i] = 99
		}
	}
	for range 2 {
		sizes, others := impl.LocationSizes(list), impl.LocationSizes(list)
		location, _ := impl.ParseLocation("027")
		another, _ := impl.ParseLocation("027")
		overwrite(sizes)
		overwrite(location)
		if !slices.Equal(list, []int{0, 2, 7}) || !slices.Equal(others, []int{0, 4, 4096}) || !slices.Equal(another, []int{0, 2, 7}) {
			t.Errorf("the change of a result changed %v, %v or %v", list, others, another)
		}
	}
}

func TestLocationSamplesAreAsNamed(t *testing.T) {
	for _, list := range nonLocations() {
		if isReferenceLocation(list) {
			t.Errorf("the sample %v is a location", list)
		}
	}
	for _, location := range locationSamples() {
		if !isReferenceLocation(location) {
			t.Errorf("the sample %v is not a location", location)
		}
	}
}
