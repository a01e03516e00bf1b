package digest_test

import (
	"bytes"
	"crypto/hmac"
	"crypto/sha1"
	"crypto/sha256"
	"strings"
	"testing"

	"stele/api"
	"stele/digest"
)

// pattern: n bytes that differ from their neighbours, all 256 among them.
func pattern(n int) []byte {
	b := make([]byte, n)
	for i := range b {
		b[i] = byte(i*7 + i>>8 + 3)
	}
	return b
}

// edges: lengths at which padding takes another form, and those beside them.
func edges() []int {
	var l []int
	for _, n := range []int{0, 56, 64, 120, 128, 192, 512, 1536, 4096} {
		for _, by := range []int{-1, 0, 1} {
			if n+by >= 0 {
				l = append(l, n+by)
			}
		}
	}
	return l
}

func sum256(b []byte) []byte {
	s := sha256.Sum256(b)
	return s[:]
}

func sum1(b []byte) []byte {
	s := sha1.Sum(b)
	return s[:]
}

func mac256(key, b []byte) []byte {
	m := hmac.New(sha256.New, key)
	m.Write(b)
	return m.Sum(nil)
}

func mac1(key, b []byte) []byte {
	m := hmac.New(sha1.New, key)
	m.Write(b)
	return m.Sum(nil)
}

// P101

func TestShaKnown(t *testing.T) {
	long := "abcdbcdecdefdefgefghfghighijhijkijkljklmklmnlmnomnopnopq"
	million := strings.Repeat("a", 1000000)
	for _, c := range []struct{ text, s256, s1 string }{
		{"", "e3b0c44298fc1c149afbf4c8996fb92427ae41e4649b934ca495991b7852b855", "da39a3ee5e6b4b0d3255bfef95601890afd80709"},
		{"abc", "ba7816bf8f01cfea414140de5dae2223b00361a396177a9cb410ff61f20015ad", "a9993e364706816aba3e25717850c26c9cd0d89d"},
		{long, "248d6a61d20638b8e5c026930c3e6039a33ce45964ff2167f6ecedd419db06c1", "84983e441c3bd26ebaae4aa1f95129e5e54670f1"},
		{million, "cdc76e5c9914fb9281a1c7e284d73e67f1809a48a497200e046d39ccc7112cd0", "34aa973cd4c4daa4f61eeb2bdbad27316534016f"},
	} {
		if got := digest.Hex(digest.Sha256([]byte(c.text))); got != c.s256 {
			t.Errorf("Sha256 of %d bytes: %s, not %s", len(c.text), got, c.s256)
		}
		if got := digest.Hex(digest.Sha1([]byte(c.text))); got != c.s1 {
			t.Errorf("Sha1 of %d bytes: %s, not %s", len(c.text), got, c.s1)
		}
	}
}

func TestShaOfNil(t *testing.T) {
	if !bytes.Equal(digest.Sha256(nil), sum256(nil)) || !bytes.Equal(digest.Sha1(nil), sum1(nil)) {
		t.Error("nil has another digest than no bytes")
	}
}

func TestShaOfEveryLength(t *testing.T) {
	for n := range 300 {
		b := pattern(n)
		if !bytes.Equal(digest.Sha256(b), sum256(b)) {
			t.Errorf("Sha256 of %d bytes", n)
		}
		if !bytes.Equal(digest.Sha1(b), sum1(b)) {
			t.Errorf("Sha1 of %d bytes", n)
		}
	}
}

func TestShaLength(t *testing.T) {
	for _, n := range edges() {
		if got := len(digest.Sha256(pattern(n))); got != 32 {
			t.Errorf("Sha256 of %d bytes has %d bytes", n, got)
		}
		if got := len(digest.Sha1(pattern(n))); got != 20 {
			t.Errorf("Sha1 of %d bytes has %d bytes", n, got)
		}
	}
}

// P102

func TestHmacKnown(t *testing.T) {
	for _, c := range []struct {
		key, text []byte
		m256, m1  string
	}{
		{nil, nil, "b613679a0814d9ec772f95d778c35fc5ff1697c493715653c6c712144292c5ad", "fbdb1d1b18aa6c08324b7d64b71fb76370690e1d"},
		{[]byte("Jefe"), []byte("what do ya want for nothing?"), "5bdcc146bf60754e6a042426089575c75a003f089d2739839dec58b964ec3843", "effcdf6ae5eb2fa2d27416d5f184df9c259a7c79"},
		{bytes.Repeat([]byte{0xaa}, 20), bytes.Repeat([]byte{0xdd}, 50), "773ea91e36800e46854db8ebd09181a72959098b3ef8c122d9635514ced565fe", "125d7342b9ac11cd91a39af48aa17b4f63f175d3"},
	} {
		if got := digest.Hex(digest.Hmac256(c.key, c.text)); got != c.m256 {
			t.Errorf("Hmac256 with key %x: %s, not %s", c.key, got, c.m256)
		}
		if got := digest.Hex(digest.Hmac1(c.key, c.text)); got != c.m1 {
			t.Errorf("Hmac1 with key %x: %s, not %s", c.key, got, c.m1)
		}
	}
}

func TestHmacEdges(t *testing.T) {
	for _, k := range []int{0, 1, 19, 20, 31, 32, 33, 63, 64, 65, 127, 128, 200} {
		for _, n := range edges() {
			key, b := pattern(k), pattern(n)
			if !bytes.Equal(digest.Hmac256(key, b), mac256(key, b)) {
				t.Errorf("Hmac256 of %d bytes with a key of %d", n, k)
			}
			if !bytes.Equal(digest.Hmac1(key, b), mac1(key, b)) {
				t.Errorf("Hmac1 of %d bytes with a key of %d", n, k)
			}
		}
	}
}

func TestHmacLongKeyIsItsDigest(t *testing.T) {
	b := []byte("text")
	for _, k := range []int{65, 66, 128} {
		key := pattern(k)
		if !bytes.Equal(digest.Hmac256(key, b), digest.Hmac256(sum256(key), b)) {
			t.Errorf("Hmac256: a key of %d bytes", k)
		}
		if !bytes.Equal(digest.Hmac1(key, b), digest.Hmac1(sum1(key), b)) {
			t.Errorf("Hmac1: a key of %d bytes", k)
		}
	}
	whole := pattern(64)
	if bytes.Equal(digest.Hmac256(whole, b), digest.Hmac256(sum256(whole), b)) {
		t.Error("Hmac256: a key of a whole block was digested")
	}
	if bytes.Equal(digest.Hmac1(whole, b), digest.Hmac1(sum1(whole), b)) {
		t.Error("Hmac1: a key of a whole block was digested")
	}
}

// P103

func TestHex(t *testing.T) {
	for _, c := range []struct {
		b    []byte
		want string
	}{
		{nil, ""},
		{[]byte{}, ""},
		{[]byte{0}, "00"},
		{[]byte{0x0f, 0xf0}, "0ff0"},
		{[]byte{0x01, 0x23, 0x45, 0x67, 0x89, 0xab, 0xcd, 0xef}, "0123456789abcdef"},
		{[]byte{0xff, 0x00, 0x7f, 0x80}, "ff007f80"},
	} {
		if got := digest.Hex(c.b); got != c.want {
			t.Errorf("Hex of %v: %q, not %q", c.b, got, c.want)
		}
		b, e := digest.Unhex(c.want)
		if e != api.OK || !bytes.Equal(b, c.b) {
			t.Errorf("Unhex of %q: %v, %d", c.want, b, e)
		}
	}
}

func TestUnhexRefuses(t *testing.T) {
	for _, s := range []string{"0", "000", "0g", "g0", "0G", "AB", "aB", "Ab", " 00", "00 ", "0 ", " 0", "0x00", "-1", "+1", "00\n", "00\x00\x00", "é", "0é0", "\xff\xff", "00zz", "zz00"} {
		b, e := digest.Unhex(s)
		if e != api.ErrForm || len(b) != 0 {
			t.Errorf("Unhex of %q: %v, %d", s, b, e)
		}
	}
}

func TestUnhexOfEveryPair(t *testing.T) {
	is := func(c int) int { return strings.IndexByte("0123456789abcdef", byte(c)) }
	for x := range 256 {
		for y := range 256 {
			b, e := digest.Unhex(string([]byte{byte(x), byte(y)}))
			if is(x) < 0 || is(y) < 0 {
				if e != api.ErrForm || len(b) != 0 {
					t.Fatalf("Unhex of bytes %d, %d: %v, %d", x, y, b, e)
				}
			} else if e != api.OK || len(b) != 1 || int(b[0]) != 16*is(x)+is(y) {
				t.Fatalf("Unhex of bytes %d, %d: %v, %d", x, y, b, e)
			}
		}
	}
}

func TestSame(t *testing.T) {
	for _, c := range []struct {
		a, b string
		want bool
	}{
		{"", "", true},
		{"a", "a", true},
		{"abc", "abc", true},
		{"abc", "abd", false},
		{"abc", "xbc", false},
		{"abc", "axc", false},
		{"abc", "ab", false},
		{"ab", "abc", false},
		{"", "\x00", false},
		{"\x00", "\x00\x00", false},
		{"\x01\x01", "\x02\x02", false},
		{"\x80\x80", "\x00\x00", false},
	} {
		if digest.Same([]byte(c.a), []byte(c.b)) != c.want {
			t.Errorf("Same of %q, %q is not %v", c.a, c.b, c.want)
		}
	}
	if !digest.Same(nil, []byte{}) || !digest.Same(nil, nil) || digest.Same(nil, []byte{0}) {
		t.Error("Same of nil")
	}
}

func TestSameTellsEveryBit(t *testing.T) {
	a := pattern(32)
	for i := range a {
		for bit := range 8 {
			b := bytes.Clone(a)
			b[i] ^= 1 << bit
			if digest.Same(a, b) {
				t.Errorf("byte %d, bit %d is not seen", i, bit)
			}
		}
	}
}

// P104

func TestHashOfNoBytes(t *testing.T) {
	h := digest.New()
	if h.Len() != 0 || !bytes.Equal(h.Sum(), sum256(nil)) {
		t.Errorf("a new Hash: %x, %d", h.Sum(), h.Len())
	}
	h.Add(nil)
	h.Add([]byte{})
	if h.Len() != 0 || !bytes.Equal(h.Sum(), sum256(nil)) {
		t.Errorf("no bytes added: %x, %d", h.Sum(), h.Len())
	}
}

func TestHashGoesOnBehindSum(t *testing.T) {
	all := pattern(300)
	h := digest.New()
	for i := range all {
		h.Add(all[i : i+1])
		for range 2 {
			if !bytes.Equal(h.Sum(), sum256(all[:i+1])) {
				t.Fatalf("Sum of %d bytes", i+1)
			}
		}
		if h.Len() != uint64(i+1) {
			t.Fatalf("Len of %d bytes: %d", i+1, h.Len())
		}
	}
}

// The length in bits has more than 32 bits here, still within what the document promises of.
func TestHashOfManyBytes(t *testing.T) {
	if testing.Short() {
		t.Skip("takes seconds")
	}
	part := make([]byte, 1<<20)
	h, want := digest.New(), sha256.New()
	for range 513 {
		h.Add(part)
		want.Write(part)
	}
	if !bytes.Equal(h.Sum(), want.Sum(nil)) || h.Len() != 513<<20 {
		t.Errorf("513 MiB: %x, %d", h.Sum(), h.Len())
	}
}

func TestHashOfNil(t *testing.T) {
	var h *digest.Hash
	h.Add([]byte("abc"))
	if len(h.Sum()) != 0 || h.Len() != 0 {
		t.Errorf("a nil Hash: %x, %d", h.Sum(), h.Len())
	}
}

func TestHashesShareNothing(t *testing.T) {
	g, h := digest.New(), digest.New()
	g.Add([]byte("ab"))
	h.Add([]byte("xyz"))
	g.Add([]byte("c"))
	if !bytes.Equal(g.Sum(), sum256([]byte("abc"))) || g.Len() != 3 {
		t.Error("the one Hash is changed by the other")
	}
	if !bytes.Equal(h.Sum(), sum256([]byte("xyz"))) || h.Len() != 3 {
		t.Error("the other Hash is changed by the one")
	}
}

func TestHashKeepsNoArgument(t *testing.T) {
	for _, n := range edges() {
		b := pattern(n)
		h := digest.New()
		h.Add(b)
		clear(b)
		if !bytes.Equal(h.Sum(), sum256(pattern(n))) {
			t.Errorf("an argument of %d bytes was kept", n)
		}
	}
}

func TestHashHandsOutNewMemory(t *testing.T) {
	h := digest.New()
	h.Add([]byte("abc"))
	s := h.Sum()
	clear(s[:cap(s)])
	if !bytes.Equal(h.Sum(), sum256([]byte("abc"))) {
		t.Error("what was written into a sum is seen")
	}
}

// P105

func TestHowBytesArePartedChangesNothing(t *testing.T) {
	all := pattern(200)
	want := sum256(all)
	for i := 0; i <= len(all); i++ {
		for j := i; j <= len(all); j++ {
			h := digest.New()
			h.Add(all[:i])
			h.Add(all[i:j])
			h.Add(all[j:])
			if !bytes.Equal(h.Sum(), want) || h.Len() != uint64(len(all)) {
				t.Fatalf("parted at %d and %d: %x, %d", i, j, h.Sum(), h.Len())
			}
		}
	}
}

func TestPartsOfEverySize(t *testing.T) {
	all := pattern(1000)
	for size := 1; size <= len(all); size++ {
		h := digest.New()
		for i := 0; i < len(all); i += size {
			h.Add(all[i:min(i+size, len(all))])
		}
		if !bytes.Equal(h.Sum(), digest.Sha256(all)) {
			t.Errorf("parts of %d bytes", size)
		}
	}
}

func TestUnhexOfHex(t *testing.T) {
	for n := range 300 {
		b := pattern(n)
		s := digest.Hex(b)
		back, e := digest.Unhex(s)
		if len(s) != 2*n || e != api.OK || !bytes.Equal(back, b) {
			t.Errorf("Unhex of Hex of %d bytes: %v, %d", n, back, e)
		}
	}
}

func FuzzUnhex(f *testing.F) {
	f.Add("")
	f.Add("00ff")
	f.Add("0G")
	f.Fuzz(func(t *testing.T, s string) {
		b, e := digest.Unhex(s)
		if e == api.OK && digest.Hex(b) != s || e != api.OK && (e != api.ErrForm || len(b) != 0) {
			t.Errorf("Unhex of %q: %v, %d", s, b, e)
		}
	})
}

// Rule 4 of the document

func TestArgumentsStayAsTheyAre(t *testing.T) {
	for _, n := range edges() {
		room := pattern(n + 130)
		b, key := room[:n], pattern(n + 130)[:n]
		h := digest.New()
		digest.Sha256(b)
		digest.Sha1(b)
		digest.Hmac256(key, b)
		digest.Hmac1(key, b)
		digest.Hex(b)
		digest.Same(b, key)
		h.Add(b)
		h.Sum()
		if !bytes.Equal(b[:cap(b)], pattern(n+130)) || !bytes.Equal(key[:cap(key)], pattern(n+130)) {
			t.Errorf("an argument of %d bytes, or its spare room, was changed", n)
		}
	}
}

func TestAnswersAreNewMemory(t *testing.T) {
	b := pattern(40)
	for name, call := range map[string]func() []byte{
		"Sha256":  func() []byte { return digest.Sha256(b) },
		"Sha1":    func() []byte { return digest.Sha1(b) },
		"Hmac256": func() []byte { return digest.Hmac256(b, b) },
		"Hmac1":   func() []byte { return digest.Hmac1(b, b) },
		"Unhex":   func() []byte { out, _ := digest.Unhex("00ff10"); return out },
	} {
		one := call()
		kept := bytes.Clone(one)
		one = one[:cap(one)]
		for i := range one {
			one[i] ^= 0xff
		}
		if !bytes.Equal(call(), kept) || !bytes.Equal(b, pattern(40)) {
			t.Errorf("%s: what was written into an answer is seen", name)
		}
	}
}
