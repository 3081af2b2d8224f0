package impl

import (
	"strconv"
	"strings"
)

const MaxVar = 562949953421311

const (
	maxWidth    = 7
	maxVarBytes = 7
	maxDigits   = 9
	hexDigits   = "0123456789abcdef"
)

func widthOk(width int) bool {
	return width >= 1 && width <= maxWidth
}

func Fixed(n int, width int) string {
	if !widthOk(width) || n < 0 || n>>(8*width) != 0 {
		return ""
	}
	b := make([]byte, width)
	for i := range b {
		b[i] = byte(n >> (8 * (width - 1 - i)))
	}
	return string(b)
}

func ReadFixed(s string, width int) (int, bool) {
	if !widthOk(width) || len(s) < width {
		return 0, false
	}
	n := 0
	for i := range width {
		n = n<<8 | int(s[i])
	}
	return n, true
}

func Var(n int) string {
	if n < 0 || n > MaxVar {
		return ""
	}
	b := make([]byte, 0, maxVarBytes)
	for n >= 128 {
		b = append(b, byte(n&127|128))
		n >>= 7
	}
	return string(append(b, byte(n)))
}

func ReadVar(s string) (int, int) {
	n := 0
	for i := range min(len(s), maxVarBytes) {
		n |= int(s[i]&127) << (7 * i)
		if s[i] >= 128 {
			continue
		}
		// Encoding again rejects a number with needless bytes.
		if Var(n) != s[:i+1] {
			return 0, 0
		}
		return n, i + 1
	}
	return 0, 0
}

func Hex(s string) string {
	b := make([]byte, 2*len(s))
	for i := range len(s) {
		b[2*i] = hexDigits[s[i]>>4]
		b[2*i+1] = hexDigits[s[i]&15]
	}
	return string(b)
}

func Unhex(s string) (string, bool) {
	if len(s)%2 != 0 {
		return "", false
	}
	b := make([]byte, len(s)/2)
	for i := range b {
		high := strings.IndexByte(hexDigits, s[2*i])
		low := strings.IndexByte(hexDigits, s[2*i+1])
		if high < 0 || low < 0 {
			return "", false
		}
		b[i] = byte(high<<4 | low)
	}
	return string(b), true
}

func Dec(n int) string {
	return strconv.Itoa(n)
}

func ReadDec(s string) (int, bool) {
	if len(strings.TrimPrefix(s, "-")) > maxDigits {
		return 0, false
	}
	n, err := strconv.Atoi(s)
	// Atoi also accepts a plus sign, leading zeros and -0, which Dec never writes.
	if err != nil || Dec(n) != s {
		return 0, false
	}
	return n, true
}
