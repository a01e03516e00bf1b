package totp_test

import (
	"bytes"
	"crypto/hmac"
	"crypto/sha1"
	"encoding/base32"
	"encoding/binary"
	"fmt"
	"math"
	"math/big"
	"math/rand"
	"slices"
	"strings"
	"testing"

	"stele/api"
	"stele/totp"
)

// What the document's words say, by the library's means.

const alphabet = "ABCDEFGHIJKLMNOPQRSTUVWXYZ234567"

// last: the greatest step that has a time.
const last = math.MaxUint64 / 30

// code: of a key and a counter.
func code(key []byte, counter uint64) string {
	h := hmac.New(sha1.New, key)
	h.Write(binary.BigEndian.AppendUint64(nil, counter))
	b := h.Sum(nil)
	o := b[19] & 15
	return fmt.Sprintf("%06d", binary.BigEndian.Uint32(b[o:])&0x7fffffff%1000000)
}

// steps: of t, and of those next to it that there are, counted in whole numbers.
func steps(t uint64) []uint64 {
	var out []uint64
	for _, by := range []int64{-30, 0, 30} {
		n := new(big.Int).SetUint64(t / 30 * 30)
		n.Add(n, big.NewInt(by))
		if n.Sign() >= 0 && n.IsUint64() {
			out = append(out, n.Uint64()/30)
		}
	}
	return out
}

// right: Check, as the words say.
func right(key []byte, t uint64, text string) bool {
	return slices.ContainsFunc(steps(t), func(n uint64) bool { return code(key, n) == text })
}

// text32: Base32, as the words say.
func text32(b []byte) string {
	return base32.StdEncoding.WithPadding(base32.NoPadding).EncodeToString(b)
}

// bytes32: Unbase32, as the words say. The library takes some texts that it has of no bytes: line feeds, bits behind.
func bytes32(s string) ([]byte, api.Errno) {
	b, err := base32.StdEncoding.WithPadding(base32.NoPadding).DecodeString(s)
	if err != nil || text32(b) != s {
		return nil, api.ErrForm
	}
	return b, api.OK
}

// Each call, held against the words.

func holdsHotp(t *testing.T, key []byte, counter uint64) {
	t.Helper()
	if got, want := totp.Hotp(key, counter), code(key, counter); got != want {
		t.Fatalf("Hotp(%x, %d): %q, not %q", key, counter, got, want)
	}
}

func holdsTotp(t *testing.T, key []byte, at uint64) {
	t.Helper()
	if got, want := totp.Totp(key, at), code(key, at/30); got != want {
		t.Fatalf("Totp(%x, %d): %q, not %q", key, at, got, want)
	}
}

func holdsCheck(t *testing.T, key []byte, at uint64, text string) bool {
	t.Helper()
	got, want := totp.Check(key, at, text), right(key, at, text)
	if got != want {
		t.Fatalf("Check(%x, %d, %q): %v, not %v", key, at, text, got, want)
	}
	return got
}

func holdsBase32(t *testing.T, b []byte) {
	t.Helper()
	if got, want := totp.Base32(b), text32(b); got != want {
		t.Fatalf("Base32(%x): %q, not %q", b, got, want)
	}
}

func holdsUnbase32(t *testing.T, s string) api.Errno {
	t.Helper()
	got, e := totp.Unbase32(s)
	want, wantE := bytes32(s)
	if !bytes.Equal(got, want) || e != wantE {
		t.Fatalf("Unbase32(%q): %x, %d, not %x, %d", s, got, e, want, wantE)
	}
	return e
}

// Things that tests are made of.

func rfcKey() []byte { return []byte("12345678901234567890") }

// pattern: n bytes that are not all the same.
func pattern(n int) []byte {
	out := make([]byte, n)
	for i := range out {
		out[i] = byte(i*7 + i/5*11 + 3)
	}
	return out
}

// keys: of lengths around those that HMAC takes in another way.
func keys() [][]byte {
	out := [][]byte{nil, {}, {0}, {255}, rfcKey()}
	for _, n := range []int{1, 10, 19, 20, 21, 32, 63, 64, 65, 66, 128, 200} {
		out = append(out, pattern(n))
	}
	return out
}

// times: at the edges of steps, the first ones and the last ones among them.
func times() []uint64 {
	out := []uint64{0, 1, 28, 29, 30, 31, 58, 59, 60, 61, 89, 90, 119, 120, 1111111109, 1111111111, 1234567890, 2000000000, 20000000000,
		api.MaxTime - 1, api.MaxTime, api.MaxTime + 1, 1<<31 - 1, 1 << 31, 1<<32 - 1, 1 << 32, 30<<32 - 1, 30 << 32, 1<<63 - 1, 1 << 63}
	for by := range uint64(125) {
		out = append(out, math.MaxUint64-by)
	}
	return out
}

// P701

// The values of RFC 4226, appendix D.
func TestHotpOfTheStandard(t *testing.T) {
	for counter, want := range []string{"755224", "287082", "359152", "969429", "338314", "254676", "287922", "162583", "399871", "520489"} {
		if got := totp.Hotp(rfcKey(), uint64(counter)); got != want {
			t.Errorf("Hotp %d: %q, not %q", counter, got, want)
		}
	}
}

// The values of RFC 6238, appendix B, without their first two digits.
func TestTotpOfTheStandard(t *testing.T) {
	for _, c := range []struct {
		at   uint64
		want string
	}{
		{59, "287082"},
		{1111111109, "081804"},
		{1111111111, "050471"},
		{1234567890, "005924"},
		{2000000000, "279037"},
		{20000000000, "353130"},
	} {
		if got := totp.Totp(rfcKey(), c.at); got != c.want {
			t.Errorf("Totp %d: %q, not %q", c.at, got, c.want)
		}
	}
}

func TestConstants(t *testing.T) {
	if totp.Step != 30 || totp.Digits != 6 {
		t.Errorf("Step %d, Digits %d", totp.Step, totp.Digits)
	}
}

func TestHotpEdges(t *testing.T) {
	for _, key := range keys() {
		for _, counter := range []uint64{0, 1, 2, last - 1, last, last + 1, math.MaxUint64 - 1, math.MaxUint64} {
			holdsHotp(t, key, counter)
		}
		// Each byte of the counter has a place of its own.
		for bit := range 64 {
			holdsHotp(t, key, 1<<bit)
			holdsHotp(t, key, 1<<bit-1)
		}
		holdsHotp(t, key, 0x0123456789abcdef)
	}
}

func TestTotpEdges(t *testing.T) {
	for _, key := range keys() {
		for _, at := range times() {
			holdsTotp(t, key, at)
		}
	}
	if totp.Totp(rfcKey(), 29) != "755224" || totp.Totp(rfcKey(), 30) != "287082" || totp.Totp(rfcKey(), 60) != "359152" {
		t.Error("Totp at the edges of the first steps")
	}
}

// A key of more than a block is its digest, one of a block is itself.
func TestKeysAroundABlock(t *testing.T) {
	for _, n := range []int{63, 64, 65} {
		sum := sha1.Sum(pattern(n))
		same := totp.Hotp(pattern(n), 7) == totp.Hotp(sum[:], 7)
		if same != (n > 64) {
			t.Errorf("a key of %d bytes and its digest have one code: %v", n, same)
		}
	}
	if totp.Hotp(nil, 7) != totp.Hotp([]byte{}, 7) || totp.Hotp(nil, 7) != totp.Hotp(make([]byte, 64), 7) {
		t.Error("an empty key is not one of noughts")
	}
}

// Of many counters: each place where a code is cut, the highest bit on, and codes with zeros ahead.
func TestCodesOfEveryKind(t *testing.T) {
	var places [16]int
	var high int
	var zeros [7]int
	for counter := range uint64(30000) {
		holdsHotp(t, rfcKey(), counter)
		h := hmac.New(sha1.New, rfcKey())
		h.Write(binary.BigEndian.AppendUint64(nil, counter))
		b := h.Sum(nil)
		places[b[19]&15]++
		high += int(b[b[19]&15] >> 7)
		got := totp.Hotp(rfcKey(), counter)
		zeros[6-len(strings.TrimLeft(got, "0"))]++
		if len(got) != 6 {
			t.Fatalf("Hotp %d: %q", counter, got)
		}
	}
	if slices.Min(places[:]) == 0 || high == 0 || zeros[0] == 0 || zeros[1] == 0 || zeros[2] == 0 || zeros[3] == 0 {
		t.Errorf("too few kinds of codes: %v, %d, %v", places, high, zeros)
	}
}

// P702

func TestCheck(t *testing.T) {
	for _, c := range []struct {
		at   uint64
		code string
		want bool
	}{
		{59, "287082", true},
		{89, "287082", true},
		{90, "287082", false},
		{0, "287082", true},
		{0, "755224", true},
		{0, "359152", false},
		{29, "359152", false},
		{30, "359152", true},
		{30, "755224", true},
		{59, "755224", true},
		{60, "755224", false},
		{1111111109, "081804", true},
		{1111111109, "81804", false},
		{1111111111, "050471", true},
		{1111111111, "081804", true},
		{1234567890, "005924", true},
		{1234567890, "05924", false},
		{1234567890, "5924", false},
		{1234567890, "0005924", false},
	} {
		if holdsCheck(t, rfcKey(), c.at, c.code) != c.want {
			t.Errorf("Check at %d of %q is not %v", c.at, c.code, c.want)
		}
	}
}

// Steps up to three away, at each edge of time.
func TestCheckOfStepsAround(t *testing.T) {
	var yes, no int
	for _, key := range keys() {
		for _, at := range times() {
			for by := range uint64(7) {
				// Counters wrap round here: so do those of steps that there are not.
				if holdsCheck(t, key, at, code(key, at/30+by-3)) {
					yes++
				} else {
					no++
				}
			}
		}
	}
	if yes == 0 || no == 0 {
		t.Errorf("%d right, %d not", yes, no)
	}
}

func TestCheckAtTheFirstStep(t *testing.T) {
	for _, key := range keys() {
		for at := range uint64(30) {
			if !totp.Check(key, at, code(key, 0)) || !totp.Check(key, at, code(key, 1)) {
				t.Errorf("at %d: a step that there is does not hold", at)
			}
			for _, counter := range []uint64{2, last, last + 1, math.MaxUint64} {
				if totp.Check(key, at, code(key, counter)) {
					t.Errorf("at %d: the code of %d holds", at, counter)
				}
			}
		}
	}
}

func TestCheckAtTheLastStep(t *testing.T) {
	for _, key := range keys() {
		for at := uint64(last * 30); at != 0; at++ {
			if !totp.Check(key, at, code(key, last)) || !totp.Check(key, at, code(key, last-1)) {
				t.Errorf("at %d: a step that there is does not hold", at)
			}
			for _, counter := range []uint64{0, 1, last - 2, last + 1, math.MaxUint64} {
				if totp.Check(key, at, code(key, counter)) {
					t.Errorf("at %d: the code of %d holds", at, counter)
				}
			}
		}
		if !totp.Check(key, last*30-1, code(key, last)) || totp.Check(key, last*30-1, code(key, last+1)) {
			t.Error("the step ahead of the last one")
		}
	}
}

// Steps near each other that have one code by chance: it holds for each of them.
func TestCheckOfACodeOfTwoSteps(t *testing.T) {
	for _, c := range []struct {
		one, other uint64
		code       string
	}{
		{910737, 910738, "911617"},
		{1300575, 1300576, "761737"},
		{153567, 153569, "468457"},
		{679858, 679860, "038755"},
	} {
		for step := c.one - 2; step <= c.other+2; step++ {
			if want := step >= c.one-1 && step <= c.other+1; holdsCheck(t, rfcKey(), step*30, c.code) != want {
				t.Errorf("%q in step %d is not %v", c.code, step, want)
			}
		}
	}
}

// Wrong inputs

func TestCheckOfTurnedCodes(t *testing.T) {
	for _, at := range []uint64{0, 45, 1234567890, math.MaxUint64} {
		for _, n := range steps(at) {
			right := code(rfcKey(), n)
			for i := range right {
				for c := range 256 {
					turned := []byte(right)
					turned[i] = byte(c)
					if holdsCheck(t, rfcKey(), at, string(turned)) != (right[i] == byte(c)) {
						t.Errorf("at %d: %q", at, turned)
					}
				}
			}
		}
	}
}

func TestCheckOfOtherTexts(t *testing.T) {
	for _, at := range []uint64{0, 45, 1234567890, math.MaxUint64} {
		for _, n := range steps(at) {
			c := code(rfcKey(), n)
			for _, text := range []string{"", c[:5], c[1:], c[:1], "0" + c, c + "0", c + c[5:], c + c, " " + c, c + " ", c + "\n", c + "\x00", "+" + c[1:], "-" + c,
				strings.TrimLeft(c, "0") + ".", c[:3] + " " + c[3:], "００" + c, strings.Repeat(c, 1000)} {
				if holdsCheck(t, rfcKey(), at, text) {
					t.Errorf("at %d: %q holds", at, text)
				}
			}
			if holdsCheck(t, pattern(20), at, c) {
				t.Errorf("at %d: the code of another key holds", at)
			}
		}
	}
}

// P703

// The values of RFC 4648, section 10, without the signs behind.
func TestBase32OfTheStandard(t *testing.T) {
	for _, c := range []struct{ b, want string }{
		{"", ""},
		{"f", "MY"},
		{"fo", "MZXQ"},
		{"foo", "MZXW6"},
		{"foob", "MZXW6YQ"},
		{"fooba", "MZXW6YTB"},
		{"foobar", "MZXW6YTBOI"},
		{"12345678901234567890", "GEZDGNBVGY3TQOJQGEZDGNBVGY3TQOJQ"},
		{"\x00", "AA"},
		{"\xff", "74"},
	} {
		if got := totp.Base32([]byte(c.b)); got != c.want {
			t.Errorf("Base32 of %q: %q, not %q", c.b, got, c.want)
		}
		if got, e := totp.Unbase32(c.want); string(got) != c.b || e != api.OK {
			t.Errorf("Unbase32 of %q: %q, %d", c.want, got, e)
		}
	}
	if totp.Base32(nil) != "" {
		t.Error("Base32 of nil")
	}
}

func TestBase32OfEveryLength(t *testing.T) {
	for n := range 300 {
		for _, b := range [][]byte{pattern(n), make([]byte, n), bytes.Repeat([]byte{255}, n)} {
			holdsBase32(t, b)
			if got := len(totp.Base32(b)); got != (8*n+4)/5 {
				t.Errorf("Base32 of %d bytes: %d signs", n, got)
			}
			holdsUnbase32(t, text32(b))
		}
	}
}

// Each bit has a place of its own.
func TestBase32OfEveryBit(t *testing.T) {
	for n := range 12 {
		for i := range 8 * n {
			b := make([]byte, n)
			b[i/8] = 1 << (i % 8)
			holdsBase32(t, b)
			holdsUnbase32(t, text32(b))
		}
	}
}

func TestBase32OfEveryPair(t *testing.T) {
	for x := range 1 << 16 {
		holdsBase32(t, []byte{byte(x >> 8), byte(x)})
	}
}

// Wrong inputs

func TestUnbase32Refuses(t *testing.T) {
	for _, s := range []string{"A", "B", "7", "AAA", "AAAAAA", "AAAAAAAAA", "AAAAAAAAAAA", "AAAAAAAAAAAAAA", // lengths that no bytes have
		"my", "mZXW6", "MZXw6", "MZXW6ytb", "aa", // small letters
		"M0", "M1", "M8", "M9", "0A", "1A", "8A", "9A", "MZXW0", "MZXW1", "MZXW8", "MZXW9", // other digits
		"=", "MY=", "MY======", "MZXQ====", "MZXW6===", "MZXW6YQ=", "MZXW6YTB=", "MZXW6YTBOI======", "========", "M=", "=A", // signs behind
		"MZ", "AB", "AC", "A7", "75", "MZXR", "AAAB", "AAAI", "MZXW7", "AAAAB", "MZXW6YR", "AAAAAAB", "AAAAAAE", "MZXW6YTBOJ", // bits behind
		" MY", "MY ", "M Y", "MY\n", "\nMY", "M\nY", "MY\r\n", "\n", "\r\n", " ", "-", "M-", "MY\x00", "\x00\x00", "é", "ÀÀ", "\xff\xff", "M\xd9", "@A", "[A", "A@", "A[", "A`", "A{", "A/", "A:"} {
		if holdsUnbase32(t, s) != api.ErrForm {
			t.Errorf("%q is not refused", s)
		}
		if b, _ := totp.Unbase32(s); len(b) != 0 {
			t.Errorf("%q: refused, and %x", s, b)
		}
	}
}

// Bits behind the last byte, for each length that fills some.
func TestUnbase32OfBitsBehind(t *testing.T) {
	for n := 1; n <= 11; n++ {
		s := text32(pattern(n))
		fill := 5*len(s) - 8*n
		at := strings.IndexByte(alphabet, s[len(s)-1])
		for bits := range 1 << fill {
			e := holdsUnbase32(t, s[:len(s)-1]+alphabet[at+bits:at+bits+1])
			if (e == api.OK) != (bits == 0) {
				t.Errorf("%d bytes, bits %b behind: %d", n, bits, e)
			}
		}
	}
}

func TestUnbase32OfEveryPair(t *testing.T) {
	var good int
	for x := range 1 << 16 {
		if holdsUnbase32(t, string([]byte{byte(x >> 8), byte(x)})) == api.OK {
			good++
		}
	}
	if good != 256 {
		t.Errorf("%d texts of two signs", good)
	}
}

// Each byte at each place of a text.
func TestUnbase32OfEveryByte(t *testing.T) {
	for n := range 12 {
		s := []byte(text32(pattern(n)))
		for i := range s {
			for c := range 256 {
				turned := bytes.Clone(s)
				turned[i] = byte(c)
				holdsUnbase32(t, string(turned))
				holdsUnbase32(t, string(slices.Insert(bytes.Clone(s), i, byte(c))))
			}
			holdsUnbase32(t, string(s[:i]))
			holdsUnbase32(t, string(s[i:]))
		}
		for c := range 256 {
			holdsUnbase32(t, string(append(bytes.Clone(s), byte(c))))
		}
	}
}

// What is read ahead of the fault is not handed out.
func TestUnbase32OfAFaultBehindMuch(t *testing.T) {
	long := text32(pattern(1000))
	for _, behind := range []string{"a", "1", "=", "A", "B", "AA=", "AAA", "AB", " "} {
		if holdsUnbase32(t, long+behind) != api.ErrForm {
			t.Errorf("%q behind much is not refused", behind)
		}
	}
}

// P704

func TestUnbase32OfBase32(t *testing.T) {
	for n := range 300 {
		for _, b := range [][]byte{pattern(n), make([]byte, n), bytes.Repeat([]byte{255}, n)} {
			if back, e := totp.Unbase32(totp.Base32(b)); e != api.OK || !bytes.Equal(back, b) {
				t.Errorf("%x: %x, %d", b, back, e)
			}
		}
	}
}

func TestRightForAllOfItsStep(t *testing.T) {
	for _, key := range [][]byte{nil, rfcKey(), pattern(65)} {
		for _, at := range []uint64{0, 29, 30, 59, 60, 1234567890, api.MaxTime, 1 << 63, last*30 - 31, last*30 - 1, last * 30, math.MaxUint64} {
			first := at / 30 * 30
			for _, n := range []uint64{at/30 - 2, at/30 - 1, at / 30, at/30 + 1, at/30 + 2} {
				c := code(key, n)
				want := totp.Check(key, at, c)
				for by := range uint64(30) {
					if first+by < first { // the last step is a short one
						break
					}
					if totp.Check(key, first+by, c) != want || totp.Totp(key, first+by) != totp.Totp(key, at) {
						t.Fatalf("%q at %d: %v, not so at %d", c, at, want, first+by)
					}
				}
			}
		}
	}
}

func TestSamples(t *testing.T) {
	r := rand.New(rand.NewSource(7))
	told := map[string]int{}
	for range 30000 {
		key := make([]byte, r.Intn(80))
		r.Read(key)
		at := r.Uint64() >> r.Intn(64)
		holdsHotp(t, key, at)
		holdsTotp(t, key, at)
		if holdsCheck(t, key, at, code(key, at/30+uint64(r.Intn(7))-3)) {
			told["right"]++
		} else {
			told["not"]++
		}
		holdsBase32(t, key)
		s := []byte(text32(key))
		for range r.Intn(3) {
			if len(s) > 0 {
				s[r.Intn(len(s))] = alphabet[r.Intn(32)]
			}
		}
		told[fmt.Sprint(int(holdsUnbase32(t, string(s[r.Intn(2)*r.Intn(len(s)+1):]))))]++
	}
	for _, kind := range []string{"right", "not", "0", "4"} {
		if told[kind] < 500 {
			t.Errorf("too few samples: %v", told)
		}
	}
}

func FuzzUnbase32(f *testing.F) {
	for _, s := range []string{"", "MY", "MZXW6", "MZ", "A", "my", "MY="} {
		f.Add(s)
	}
	f.Fuzz(func(t *testing.T, s string) {
		if holdsUnbase32(t, s) == api.OK {
			b, _ := totp.Unbase32(s)
			if totp.Base32(b) != s {
				t.Errorf("%q is not Base32 of its bytes", s)
			}
		}
		holdsBase32(t, []byte(s))
	})
}

func FuzzCheck(f *testing.F) {
	f.Add([]byte("12345678901234567890"), uint64(59), "287082", uint8(3))
	f.Add([]byte{}, uint64(math.MaxUint64), "", uint8(4))
	f.Fuzz(func(t *testing.T, key []byte, at uint64, text string, by uint8) {
		holdsHotp(t, key, at)
		holdsTotp(t, key, at)
		holdsCheck(t, key, at, text)
		holdsCheck(t, key, at, code(key, at/30+uint64(by%7)-3))
	})
}

// Rules 4 and 5 of the document

func TestArgumentsStayAsTheyAre(t *testing.T) {
	for _, n := range []int{0, 1, 5, 20, 63, 64, 65, 100} {
		room := pattern(n + 140)
		b := room[:n]
		for range 2 {
			holdsHotp(t, b, 5)
			holdsTotp(t, b, 59)
			holdsCheck(t, b, 59, code(pattern(n), 2))
			holdsBase32(t, b)
		}
		if !bytes.Equal(room, pattern(n+140)) {
			t.Errorf("an argument of %d bytes, or its spare room, was changed", n)
		}
	}
}

func TestAnswersAreNewMemory(t *testing.T) {
	s := text32(pattern(50))
	one, _ := totp.Unbase32(s)
	two, _ := totp.Unbase32(s)
	one = one[:cap(one)]
	for i := range one {
		one[i] ^= 255
	}
	if !bytes.Equal(two, pattern(50)) {
		t.Error("what was written into an answer is seen in another")
	}
	if holdsUnbase32(t, s) != api.OK || s != text32(pattern(50)) {
		t.Error("what was written into an answer is seen")
	}
}
