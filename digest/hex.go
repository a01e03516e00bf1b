package digest

import "stele/api"

const hexDigits = "0123456789abcdef"

// Hex: two digits for each byte of b.
func Hex(b []byte) string {
	out := make([]byte, 0, 2*len(b))
	for _, x := range b {
		out = append(out, hexDigits[x>>4], hexDigits[x&15])
	}
	return string(out)
}

// Unhex: the bytes whose Hex is s; ErrForm, if none have it.
func Unhex(s string) ([]byte, api.Errno) {
	if len(s)%2 != 0 {
		return nil, api.ErrForm
	}
	out := make([]byte, len(s)/2)
	for i := range out {
		high, ok := hexValue(s[2*i])
		if !ok {
			return nil, api.ErrForm
		}
		low, ok := hexValue(s[2*i+1])
		if !ok {
			return nil, api.ErrForm
		}
		out[i] = high<<4 | low
	}
	return out, api.OK
}

// hexValue takes no capital letters: a byte has one text alone.
func hexValue(c byte) (byte, bool) {
	switch {
	case c >= '0' && c <= '9':
		return c - '0', true
	case c >= 'a' && c <= 'f':
		return c - 'a' + 10, true
	}
	return 0, false
}
