package request

import "strings"

const (
	mostToken = 64
	mostText  = 1024 // bytes of a target, of a value
)

// isMethod: is s one of the five methods?
func isMethod(s string) bool {
	switch s {
	case "GET", "PUT", "POST", "DELETE", "HEAD":
		return true
	}
	return false
}

// isTarget: is s a target?
func isTarget(s string) bool {
	return len(s) <= mostText && within(s, 0x21, 0x7e)
}

// isToken: is s a token, of letters of any case?
func isToken(s string) bool {
	for i := range len(s) {
		if !inToken(s[i]) {
			return false
		}
	}
	return 1 <= len(s) && len(s) <= mostToken
}

// inToken: may b stand in a token?
func inToken(b byte) bool {
	switch {
	case 'a' <= b && b <= 'z', 'A' <= b && b <= 'Z', '0' <= b && b <= '9':
		return true
	}
	return b == '-' || b == '_'
}

// isValue: is s a header's value?
func isValue(s string) bool {
	return len(s) <= mostText && within(s, 0x20, 0x7e) && s == strings.Trim(s, " ")
}

// within: is each byte of s from low to high?
func within(s string, low, high byte) bool {
	for i := range len(s) {
		if s[i] < low || s[i] > high {
			return false
		}
	}
	return true
}
