package tests

import (
	"encoding/binary"
	"encoding/hex"
	"math"
	"strconv"
	"strings"
	"testing"

	"loop.example/g01921/impl"
)

// Promise 1: each decoder is the inverse of its encoder and accepts nothing else.

func expectFixed(t *testing.T, s string, width int, want int, wantOK bool) {
	t.Helper()
	if n, ok := impl.DecodeFixed(s, width); n != want || ok != wantOK {
		t.Errorf("DecodeFixed(%q, %d) = %d, %v, want %d, %v", s, width, n, ok, want, wantOK)
	}
}

func expectVarint(t *testing.T, s string, want int, wantLength int) {
	t.Helper()
	if n, length := impl.DecodeVarint(s); n != want || length != wantLength {
		t.Errorf("DecodeVarint(%q) = %d, %d, want %d, %d", s, n, length, want, wantLength)
	}
}

func expectHex(t *testing.T, s string, want string, wantOK bool) {
	t.Helper()
	if decoded, ok := impl.DecodeHex(s); decoded != want || ok != wantOK {
		t.Errorf("DecodeHex(%q) = %q, %v, want %q, %v", s, decoded, ok, want, wantOK)
	}
}

func expectInt(t *testing.T, s string, want int, wantOK bool) {
	t.Helper()
	if n, ok := impl.ParseInt(s); n != want || ok != wantOK {
		t.Errorf("ParseInt(%q) = %d, %v, want %d, %v", s, n, ok, want, wantOK)
	}
}

// nearPowers returns the numbers from 0 on that are next to a power of two.
func nearPowers() []int {
	numbers := []int{0, 123456789, 81985529216486895}
	for bit := 0; bit < 63; bit++ {
		numbers = append(numbers, 1<<bit-1, 1<<bit, 1<<bit+1)
	}
	return append(numbers, math.MaxInt)
}

// stringsOver returns all strings of at most maxLength bytes of the alphabet.
func stringsOver(alphabet string, maxLength int) []string {
	all := []string{""}
	from := 0
	for length := 1; length <= maxLength; length++ {
		to := len(all)
		for _, prefix := range all[from:to] {
			for i := 0; i < len(alphabet); i++ {
				all = append(all, prefix+alphabet[i:i+1])
			}
		}
		from = to
	}
	return all
}

func allBytes() string {
	every := make([]byte, 256)
	for i := range every {
		every[i] = byte(i)
	}
	return string(every)
}

func TestEncodeFixedValues(t *testing.T) {
	for _, c := range []struct {
		n, width int
		want     string
	}{
		{258, 2, "\x01\x02"},
		{0, 1, "\x00"},
		{0, 3, "\x00\x00\x00"},
		{7, 3, "\x00\x00\x07"},
		{255, 1, "\xff"},
		{256, 1, ""},
		{256, 2, "\x01\x00"},
		{65535, 2, "\xff\xff"},
		{65536, 2, ""},
		{0x01020304050607, 7, "\x01\x02\x03\x04\x05\x06\x07"},
		{1<<56 - 1, 7, "\xff\xff\xff\xff\xff\xff\xff"},
		{1 << 56, 7, ""},
		{math.MaxInt, 7, ""},
		{-1, 1, ""},
		{-1, 7, ""},
		{math.MinInt, 7, ""},
		{0, 0, ""},
		{0, 8, ""},
		{1, 8, ""},
		{0, -1, ""},
		{0, math.MinInt, ""},
		{0, math.MaxInt, ""},
		{math.MinInt, math.MinInt, ""},
	} {
		if got := impl.EncodeFixed(c.n, c.width); got != c.want {
			t.Errorf("EncodeFixed(%d, %d) = %q, want %q", c.n, c.width, got, c.want)
		}
	}
}

func TestFixedRoundTrip(t *testing.T) {
	for width := 1; width <= 7; width++ {
		for _, n := range nearPowers() {
			s := impl.EncodeFixed(n, width)
			if n >= 1<<(8*width) {
				if s != "" {
					t.Errorf("EncodeFixed(%d, %d) = %q, but the number does not fit", n, width, s)
				}
				continue
			}
			want := string(binary.BigEndian.AppendUint64(nil, uint64(n))[8-width:])
			if s != want {
				t.Errorf("EncodeFixed(%d, %d) = %q, want %q", n, width, s, want)
			}
			expectFixed(t, s, width, n, true)
			expectFixed(t, s+"\x00rest", width, n, true)
		}
	}
}

func TestDecodeFixedValues(t *testing.T) {
	expectFixed(t, "\x01\x02\x03", 2, 258, true)
	expectFixed(t, "\x00\x00", 2, 0, true)
	expectFixed(t, "\xff\xff\xff\xff\xff\xff\xff", 7, 1<<56-1, true)
	for _, s := range stringsOver(allBytes(), 2) {
		n, ok := impl.DecodeFixed(s, len(s))
		if ok != (s != "") || ok && impl.EncodeFixed(n, len(s)) != s {
			t.Errorf("DecodeFixed(%q, %d) = %d, %v", s, len(s), n, ok)
		}
	}
}

func TestDecodeFixedRejects(t *testing.T) {
	long := strings.Repeat("\x01", 20)
	for _, width := range []int{0, 8, 9, -1, -7, math.MinInt, math.MaxInt} {
		expectFixed(t, long, width, 0, false)
		expectFixed(t, "", width, 0, false)
	}
	for width := 1; width <= 7; width++ {
		expectFixed(t, long[:width-1], width, 0, false)
		expectFixed(t, "", width, 0, false)
	}
}

func TestEncodeVarintValues(t *testing.T) {
	for _, c := range []struct {
		n    int
		want string
	}{
		{0, "\x00"},
		{1, "\x01"},
		{127, "\x7f"},
		{128, "\x80\x01"},
		{300, "\xac\x02"},
		{16383, "\xff\x7f"},
		{16384, "\x80\x80\x01"},
		{impl.MaxVarint, "\xff\xff\xff\xff\xff\xff\x7f"},
		{impl.MaxVarint + 1, ""},
		{math.MaxInt, ""},
		{-1, ""},
		{math.MinInt, ""},
	} {
		if got := impl.EncodeVarint(c.n); got != c.want {
			t.Errorf("EncodeVarint(%d) = %q, want %q", c.n, got, c.want)
		}
	}
	if impl.MaxVarint != 1<<49-1 {
		t.Error("MaxVarint", impl.MaxVarint)
	}
}

func TestVarintRoundTrip(t *testing.T) {
	numbers := append(nearPowers(), impl.MaxVarint-1, impl.MaxVarint, impl.MaxVarint+1)
	for n := 0; n < 70000; n++ {
		numbers = append(numbers, n)
	}
	for _, n := range numbers {
		s := impl.EncodeVarint(n)
		if n > impl.MaxVarint {
			if s != "" {
				t.Errorf("EncodeVarint(%d) = %q, but the number is out of range", n, s)
			}
			continue
		}
		if want := string(binary.AppendUvarint(nil, uint64(n))); s != want {
			t.Errorf("EncodeVarint(%d) = %q, want %q", n, s, want)
		}
		expectVarint(t, s, n, len(s))
		expectVarint(t, s+"\x00", n, len(s))
		expectVarint(t, s+"\xff", n, len(s))
		expectVarint(t, s[:len(s)-1], 0, 0)
	}
}

// Every string of two bytes is accepted exactly if it starts with the varint of some number.
func TestDecodeVarintAcceptsNothingElse(t *testing.T) {
	varints := map[string]int{}
	for n := 0; n < 1<<14; n++ {
		varints[string(binary.AppendUvarint(nil, uint64(n)))] = n
	}
	for _, s := range stringsOver(allBytes(), 2) {
		want, wantLength := 0, 0
		for length := 1; length <= len(s); length++ {
			if n, ok := varints[s[:length]]; ok {
				want, wantLength = n, length
			}
		}
		expectVarint(t, s, want, wantLength)
	}
}

func TestDecodeVarintUnnecessaryBytes(t *testing.T) {
	for length := 1; length <= 12; length++ {
		expectVarint(t, strings.Repeat("\x80", length)+"\x00", 0, 0)
		expectVarint(t, strings.Repeat("\xff", length)+"\x00", 0, 0)
	}
	for _, s := range []string{"\xac\x82\x00", "\x81\x00", "\xff\x80\x00", "\x80\x00\x01"} {
		expectVarint(t, s, 0, 0)
	}
}

func TestDecodeVarintLimits(t *testing.T) {
	expectVarint(t, "", 0, 0)
	expectVarint(t, "\xff\xff\xff\xff\xff\xff\x7f", impl.MaxVarint, 7)
	expectVarint(t, "\x80\x80\x80\x80\x80\x80\x01", 1<<42, 7)
	// The least number that is out of range, and numbers beyond 64 bits.
	expectVarint(t, "\x80\x80\x80\x80\x80\x80\x80\x01", 0, 0)
	for length := 1; length <= 12; length++ {
		expectVarint(t, strings.Repeat("\xff", length), 0, 0)
	}
	for length := 7; length <= 12; length++ {
		expectVarint(t, strings.Repeat("\xff", length)+"\x01", 0, 0)
		expectVarint(t, strings.Repeat("\x80", length)+"\x01", 0, 0)
	}
}

func TestHexValues(t *testing.T) {
	for _, c := range []struct{ s, want string }{
		{"", ""},
		{"a\xff", "61ff"},
		{"\x00", "00"},
		{"\x0f\xf0", "0ff0"},
		{"\x09\xa0", "09a0"},
		{"é€", "c3a9e282ac"},
		{allBytes(), hex.EncodeToString([]byte(allBytes()))},
	} {
		if got := impl.EncodeHex(c.s); got != c.want {
			t.Errorf("EncodeHex(%q) = %q, want %q", c.s, got, c.want)
		}
		expectHex(t, c.want, c.s, true)
	}
	for _, s := range stringsOver(allBytes(), 2) {
		encoded := impl.EncodeHex(s)
		if want := hex.EncodeToString([]byte(s)); encoded != want {
			t.Errorf("EncodeHex(%q) = %q, want %q", s, encoded, want)
		}
		expectHex(t, encoded, s, true)
	}
}

func TestDecodeHexRejects(t *testing.T) {
	for _, s := range []string{
		"6", "61f", "6F", "FF", "6g", "g6", "6`", "6/", "6:", " 61", "61 ", "0x61", "-1", "+1",
		"6\x00", "\xff\xff", "61\xff\xff", "é", "61é", "6é1", "é6", "€0", "1１",
		"۱", "\xe2\x82", "ａ0",
	} {
		expectHex(t, s, "", false)
	}
}

// Every string of at most two bytes is accepted exactly if some string is encoded so.
func TestDecodeHexAcceptsNothingElse(t *testing.T) {
	encodings := map[string]string{"": ""}
	for value := 0; value < 256; value++ {
		encodings[hex.EncodeToString([]byte{byte(value)})] = string([]byte{byte(value)})
	}
	for _, s := range stringsOver(allBytes(), 2) {
		want, wantOK := encodings[s]
		expectHex(t, s, want, wantOK)
		if wantOK {
			expectHex(t, "00"+s, "\x00"+want, true)
		} else {
			expectHex(t, "00"+s, "", false)
		}
	}
}

func TestFormatIntValues(t *testing.T) {
	for _, c := range []struct {
		n    int
		want string
	}{
		{0, "0"},
		{7, "7"},
		{-7, "-7"},
		{10, "10"},
		{-120, "-120"},
		{999999999, "999999999"},
		{1000000000, "1000000000"},
		{math.MaxInt, "9223372036854775807"},
		{math.MinInt, "-9223372036854775808"},
		{math.MinInt + 1, "-9223372036854775807"},
	} {
		if got := impl.FormatInt(c.n); got != c.want {
			t.Errorf("FormatInt(%d) = %q, want %q", c.n, got, c.want)
		}
	}
	for _, n := range nearPowers() {
		if impl.FormatInt(n) != strconv.Itoa(n) || impl.FormatInt(-n) != strconv.Itoa(-n) {
			t.Errorf("FormatInt of %d or %d is %q or %q", n, -n, impl.FormatInt(n), impl.FormatInt(-n))
		}
	}
}

func TestParseIntRoundTrip(t *testing.T) {
	for n := -20000; n <= 20000; n++ {
		expectInt(t, impl.FormatInt(n), n, true)
	}
	for _, n := range nearPowers() {
		for _, signed := range []int{n, -n} {
			want, inRange := signed, n <= 999999999
			if !inRange {
				want = 0
			}
			expectInt(t, impl.FormatInt(signed), want, inRange)
		}
	}
}

func TestParseIntLimits(t *testing.T) {
	expectInt(t, "-7", -7, true)
	expectInt(t, "100000000", 100000000, true)
	expectInt(t, "999999999", 999999999, true)
	expectInt(t, "-999999999", -999999999, true)
	expectInt(t, "1000000000", 0, false)
	expectInt(t, "-1000000000", 0, false)
	expectInt(t, "-9223372036854775808", 0, false)
	expectInt(t, "18446744073709551617", 0, false)
	expectInt(t, strings.Repeat("9", 1000), 0, false)
}

func TestParseIntRejects(t *testing.T) {
	for _, s := range []string{
		"", "-", "--", "--1", "-0", "07", "-07", "00", "-00", "0000000001", "+1", "+0", " 1", "1 ", "1\n",
		"1_000", "0x1", "1e3", "1.0", "1/1", "1-", "1-2", "a", "1a", "\x001", "1\x00", "\xff", "1\xff",
		"é", "１", "۱", "−1", ":", "/",
	} {
		expectInt(t, s, 0, false)
	}
}

// Every short string is accepted exactly if some number is formatted so.
func TestParseIntAcceptsNothingElse(t *testing.T) {
	formats := map[string]int{}
	for n := -999; n <= 9999; n++ {
		formats[strconv.Itoa(n)] = n
	}
	alphabets := []struct {
		alphabet  string
		maxLength int
	}{{allBytes(), 2}, {"-+ 0123456789", 4}}
	for _, a := range alphabets {
		for _, s := range stringsOver(a.alphabet, a.maxLength) {
			want, wantOK := formats[s]
			expectInt(t, s, want, wantOK)
		}
	}
}
