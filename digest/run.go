package digest

const (
	blockSize = 64 // bytes of a block
	lenSize   = 8  // bytes of the length in bits that ends the last block
)

// kind is all in which SHA-256 and SHA-1 differ: they cut and pad alike.
type kind struct {
	size  int       // bytes of the digest
	start [8]uint32 // SHA-1 leaves the last three 0
	mix   func(words [8]uint32, block [blockSize]byte) [8]uint32
}

// run is a digest under way. It has arrays and no slices, so that a copy of
// it shares nothing with it.
type run struct {
	kind  kind
	words [8]uint32
	block [blockSize]byte // its first taken%blockSize bytes wait to be mixed
	taken uint64
}

func (k kind) begin() run { return run{kind: k, words: k.start} }

func (r *run) add(b []byte) {
	at := int(r.taken % blockSize)
	r.taken += uint64(len(b))
	for len(b) > 0 {
		n := copy(r.block[at:], b)
		b = b[n:]
		at += n
		if at == blockSize {
			r.words = r.kind.mix(r.words, r.block)
			at = 0
		}
	}
}

// sum pads a copy, its receiver: the run goes on as if it had not been asked.
func (r run) sum() []byte {
	bits := r.taken << 3
	// The subtraction may wrap round: a block's size divides 2^64.
	zeros := int((blockSize - lenSize - 1 - r.taken) % blockSize)
	var pad [1 + blockSize - 1 + lenSize]byte
	pad[0] = 0x80
	for i := range lenSize {
		pad[1+zeros+i] = byte(bits >> (56 - 8*i))
	}
	r.add(pad[:1+zeros+lenSize])
	out := make([]byte, r.kind.size)
	for i := range out {
		out[i] = byte(r.words[i/4] >> (24 - 8*(i%4)))
	}
	return out
}

// digest: of the parts, one behind the other.
func (k kind) digest(parts ...[]byte) []byte {
	r := k.begin()
	for _, p := range parts {
		r.add(p)
	}
	return r.sum()
}

func (k kind) hmac(key, b []byte) []byte {
	if len(key) > blockSize {
		key = k.digest(key)
	}
	var inner, outer [blockSize]byte
	copy(inner[:], key)
	copy(outer[:], key)
	for i := range blockSize {
		inner[i] ^= 0x36
		outer[i] ^= 0x5c
	}
	return k.digest(outer[:], k.digest(inner[:], b))
}

// word: the block's word i, its greatest byte first.
func word(block [blockSize]byte, i int) uint32 {
	var w uint32
	for j := range 4 {
		w = w<<8 | uint32(block[4*i+j])
	}
	return w
}
