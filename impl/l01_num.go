package impl

import (
	"strconv"
	"strings"
)

const MaxVarint = 562949953421311

const maxFixedWidth = 7

const maxVarintLength = 7

const maxParsedDigits = 9

const hexDigits = "0123456789abcdef"

func EncodeFixed(n int, width int) string {
	if !isFixedWidth(width) || n < 0 || n>>(8*width) != 0 {
		return ""
	}
	encoded := make([]byte, width)
	for i := width - 1; i >= 0; i-- {
		encoded[i] = byte(n)
		n >>= 8
	}
	return string(encoded)
}

func DecodeFixed(s string, width int) (int, bool) {
	if !isFixedWidth(width) || len(s) < width {
		return 0, false
	}
	n := 0
	for i := 0; i < width; i++ {
		n = n<<8 | int(s[i])
	}
	return n, true
}

// A wider number could set the sign bit of an int.
func isFixedWidth(width int) bool {
	return 1 <= width && width <= maxFixedWidth
}

func EncodeVarint(n int) string {
	if n < 0 || n > MaxVarint {
		return ""
	}
	var encoded []byte
	for n > 127 {
		encoded = append(encoded, byte(n&127|128))
		n >>= 7
	}
	return string(append(encoded, byte(n)))
}

func DecodeVarint(s string) (int, int) {
	n := 0
	for i := 0; i < len(s) && i < maxVarintLength; i++ {
		n |= int(s[i]&127) << (7 * i)
		if s[i] > 127 {
			continue
		}
		// Only the shortest form of a number is its varint.
		if EncodeVarint(n) != s[:i+1] {
			return 0, 0
		}
		return n, i + 1
	}
	return 0, 0
}

func EncodeHex(s string) string {
	encoded := make([]byte, 0, 2*len(s))
	for i := 0; i < len(s); i++ {
		encoded = append(encoded, hexDigits[s[i]>>4], hexDigits[s[i]&15])
	}
	return string(encoded)
}

func DecodeHex(s string) (string, bool) {
	if len(s)%2 != 0 {
		return "", false
	}
	decoded := make([]byte, len(s)/2)
	// Every digit is one byte, so the position of a rune counts digits until one is refused.
	for i, digit := range s {
		value, ok := hexDigitValue(digit)
		if !ok {
			return "", false
		}
		decoded[i/2] = decoded[i/2]<<4 | value
	}
	return string(decoded), true
}

func hexDigitValue(digit rune) (byte, bool) {
	switch {
	case '0' <= digit && digit <= '9':
		return byte(digit - '0'), true
	case 'a' <= digit && digit <= 'f':
		return byte(digit-'a') + 10, true
	}
	return 0, false
}

func FormatInt(n int) string {
	return strconv.Itoa(n)
}

func ParseInt(s string) (int, bool) {
	digits, negative := strings.CutPrefix(s, "-")
	if len(digits) > maxParsedDigits {
		return 0, false
	}
	n := 0
	for _, digit := range digits {
		if digit < '0' || digit > '9' {
			return 0, false
		}
		n = 10*n + int(digit-'0')
	}
	if negative {
		n = -n
	}
	// Formatting n again excludes leading zeros, -0 and a missing number.
	if FormatInt(n) != s {
		return 0, false
	}
	return n, true
}
