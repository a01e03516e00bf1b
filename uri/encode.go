package uri

import "stele/api"

// Encode: s with each byte that is not unreserved as % and two digits; with
// slash / stays.
func Encode(s string, slash bool) string {
	const digits = "0123456789ABCDEF"
	out := make([]byte, 0, len(s))
	for i := range len(s) {
		b := s[i]
		if unreserved(b) || slash && b == '/' {
			out = append(out, b)
		} else {
			out = append(out, '%', digits[b>>4], digits[b&15])
		}
	}
	return string(out)
}

// unreserved: does b stand for itself in each text?
func unreserved(b byte) bool {
	switch {
	case 'A' <= b && b <= 'Z', 'a' <= b && b <= 'z', '0' <= b && b <= '9':
		return true
	}
	return b == '-' || b == '.' || b == '_' || b == '~'
}

// Decode: s with each % and its two digits as the byte that they are; ErrPath,
// if a % has no two digits behind it.
func Decode(s string) (string, api.Errno) {
	out := make([]byte, 0, len(s))
	for i := 0; i < len(s); i++ {
		if s[i] != '%' {
			out = append(out, s[i])
			continue
		}
		if len(s)-i < 3 {
			return "", api.ErrPath
		}
		high, highOk := digit(s[i+1])
		low, lowOk := digit(s[i+2])
		if !highOk || !lowOk {
			return "", api.ErrPath
		}
		out = append(out, high<<4|low)
		i += 2
	}
	return string(out), api.OK
}

// digit: the number of a hexadecimal digit of any case; false of another sign.
func digit(b byte) (byte, bool) {
	switch {
	case '0' <= b && b <= '9':
		return b - '0', true
	case 'A' <= b && b <= 'F':
		return b - 'A' + 10, true
	case 'a' <= b && b <= 'f':
		return b - 'a' + 10, true
	}
	return 0, false
}
