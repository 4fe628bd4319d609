package words

import (
	"strings"

	"tactus/api"
)

// Name reports whether s is a name.
func Name(s string) bool {
	if s == "" || len(s) > api.MaxName || classes[s[0]] != letter {
		return false
	}
	return run(s, isNaming) == len(s)
}

// Number returns the number that s is.
func Number(s string) (int, bool) {
	if s == "" || s[0] == '0' && s != "0" {
		return 0, false
	}
	n := 0
	for i := range len(s) {
		if classes[s[i]] != digit {
			return 0, false
		}
		n = n*10 + int(s[i]-'0')
		if n > api.MaxNum {
			return 0, false
		}
	}
	return n, true
}

// Signed returns the number that s is, which may be below 0.
func Signed(s string) (int, bool) {
	digits, isNegative := strings.CutPrefix(s, "-")
	n, is := Number(digits)
	if !isNegative {
		return n, is
	}
	return -n, n > 0
}

// Pair returns what is before and after the byte by in s, if it occurs there once.
func Pair(s string, by byte) (left, right string, is bool) {
	at := strings.IndexByte(s, by)
	if at < 0 || at != strings.LastIndexByte(s, by) {
		return "", "", false
	}
	return strings.Clone(s[:at]), strings.Clone(s[at+1:]), true
}
