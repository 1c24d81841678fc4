package real

import (
	"strconv"
	"strings"

	"solder/api"
)

const (
	longest   = 40 // bytes of a real's text
	hexDigits = 16
)

// Parse answers what s means, if it is a real's text.
func Parse(s string) (uint64, api.Errno) {
	if !isText(s) {
		return 0, api.ErrForm
	}
	// The one error left is a number beyond the greatest: with it comes the infinity that is asked for.
	x, _ := strconv.ParseFloat(s, 64)
	return bits(x), api.OK
}

// Hex answers the canonical bits of a as digits.
func Hex(a uint64) string {
	s := strconv.FormatUint(Canon(a), 16)
	return strings.Repeat("0", hexDigits-len(s)) + s
}

// Unhex answers the bits that s tells.
func Unhex(s string) (uint64, api.Errno) {
	if len(s) != hexDigits {
		return 0, api.ErrForm
	}
	a, err := strconv.ParseUint(s, 16, 64)
	// Told again: so capitals, and NaN by other bits, are refused.
	if err != nil || Hex(a) != s {
		return 0, api.ErrForm
	}
	return a, api.OK
}

// isText tells whether s is a real's text: the library takes more than that.
func isText(s string) bool {
	if len(s) > longest {
		return false
	}
	before := countDigits(s)
	rest, point := strings.CutPrefix(s[before:], ".")
	behind := countDigits(rest)
	return before > 0 && point && behind > 0 && isTail(rest[behind:])
}

// isTail tells whether s is what may stand behind the digits: nothing, or e and a number.
func isTail(s string) bool {
	if s == "" {
		return true
	}
	rest, e := strings.CutPrefix(s, "e")
	if rest != "" && (rest[0] == '+' || rest[0] == '-') {
		rest = rest[1:]
	}
	return e && rest != "" && countDigits(rest) == len(rest)
}

// countDigits counts the digits that s begins with.
func countDigits(s string) int {
	n := 0
	for n < len(s) && '0' <= s[n] && s[n] <= '9' {
		n++
	}
	return n
}
