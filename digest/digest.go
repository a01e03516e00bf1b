// Package digest is layer 1: SHA-256, SHA-1, HMAC of both, and bytes as hex.
package digest

// Sha256: the digest of b by FIPS 180-4, 32 bytes.
func Sha256(b []byte) []byte { return sha256().digest(b) }

// Sha1: the digest of b by FIPS 180-4, 20 bytes.
func Sha1(b []byte) []byte { return sha1().digest(b) }

// Hmac256: HMAC of b with SHA-256, by RFC 2104.
func Hmac256(key, b []byte) []byte { return sha256().hmac(key, b) }

// Hmac1: HMAC of b with SHA-1, by RFC 2104.
func Hmac1(key, b []byte) []byte { return sha1().hmac(key, b) }

// Same: are a and b the same bytes?
func Same(a, b []byte) bool {
	if len(a) != len(b) {
		return false
	}
	// No early end: the time taken must not tell where a signature differs.
	var differ byte
	for i := range a {
		differ |= a[i] ^ b[i]
	}
	return differ == 0
}

// Hash is SHA-256 of bytes that come in parts.
type Hash struct {
	run run
}

// New: a Hash of no bytes.
func New() *Hash { return &Hash{run: sha256().begin()} }

// Add takes b, behind all bytes that were taken.
func (h *Hash) Add(b []byte) {
	if h != nil {
		h.run.add(b)
	}
}

// Sum: SHA-256 of all bytes that were taken (nil of a nil Hash).
func (h *Hash) Sum() []byte {
	if h == nil {
		return nil
	}
	return h.run.sum()
}

// Len: how many bytes were taken.
func (h *Hash) Len() uint64 {
	if h == nil {
		return 0
	}
	return h.run.taken
}
