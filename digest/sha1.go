package digest

import "math/bits"

func sha1() kind {
	return kind{
		size:  20,
		start: [8]uint32{0x67452301, 0xefcdab89, 0x98badcfe, 0x10325476, 0xc3d2e1f0},
		mix:   mix1,
	}
}

func rounds1() [4]uint32 {
	return [4]uint32{0x5a827999, 0x6ed9eba1, 0x8f1bbcdc, 0xca62c1d6}
}

func schedule1(block [blockSize]byte) [80]uint32 {
	var w [80]uint32
	for t := range 16 {
		w[t] = word(block, t)
	}
	for i := range 64 {
		t := i + 16
		w[t] = bits.RotateLeft32(w[t-3]^w[t-8]^w[t-14]^w[t-16], 1)
	}
	return w
}

// blend: what the quarter of the rounds makes of three words.
func blend(quarter int, b, c, d uint32) uint32 {
	switch quarter {
	case 0:
		return b&c ^ ^b&d
	case 2:
		return b&c ^ b&d ^ c&d
	}
	return b ^ c ^ d
}

func mix1(words [8]uint32, block [blockSize]byte) [8]uint32 {
	k := rounds1()
	w := schedule1(block)
	a, b, c, d, e := words[0], words[1], words[2], words[3], words[4]
	for t := range 80 {
		next := bits.RotateLeft32(a, 5) + blend(t/20, b, c, d) + e + k[t/20] + w[t]
		a, b, c, d, e = next, a, bits.RotateLeft32(b, 30), c, d
	}
	return [8]uint32{words[0] + a, words[1] + b, words[2] + c, words[3] + d, words[4] + e}
}
