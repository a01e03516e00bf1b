package totp

import "stele/api"

const signs = "ABCDEFGHIJKLMNOPQRSTUVWXYZ234567"

// Bits of a sign, and of a byte.
const (
	signBits = 5
	byteBits = 8
)

// Base32: a sign for each five bits of b, the last ones filled by 0 bits.
func Base32(b []byte) string {
	// Fewer than signBits wait between two bytes: 16 bits hold them and a byte.
	var held uint16
	var bits int
	out := make([]byte, 0, len(b)/signBits*byteBits+byteBits)
	for _, x := range b {
		held = held<<byteBits | uint16(x)
		for bits += byteBits; bits >= signBits; {
			bits -= signBits
			out = append(out, sign(held>>bits))
		}
	}
	if bits > 0 {
		out = append(out, sign(held<<(signBits-bits)))
	}
	return string(out)
}

// sign: of the low five bits.
func sign(bits uint16) byte { return signs[bits&(1<<signBits-1)] }

// Unbase32: the bytes whose Base32 is s; ErrForm, if none have it.
func Unbase32(s string) ([]byte, api.Errno) {
	var held uint16
	var bits int
	out := make([]byte, 0, len(s)/byteBits*signBits+signBits)
	for i := range len(s) {
		five, ok := signValue(s[i])
		if !ok {
			return nil, api.ErrForm
		}
		held = held<<signBits | five
		bits += signBits
		if bits >= byteBits {
			bits -= byteBits
			out = append(out, byte(held>>bits))
		}
	}
	// What is left filled the last sign: a whole sign of it was one too many,
	// and Base32 fills by 0 bits alone.
	if bits >= signBits || held&(1<<bits-1) != 0 {
		return nil, api.ErrForm
	}
	return out, api.OK
}

// signValue takes no small letters: bytes have one text alone.
func signValue(c byte) (uint16, bool) {
	switch {
	case c >= 'A' && c <= 'Z':
		return uint16(c - 'A'), true
	case c >= '2' && c <= '7':
		return uint16(c-'2') + 26, true
	}
	return 0, false
}
