package audit_test

import (
	"bytes"
	"crypto/sha256"
	"encoding/binary"
	"fmt"
	"math"
	"math/rand"
	"slices"
	"strings"
	"testing"

	"stele/api"
	"stele/audit"
)

// What the document's words say, on paper, by the library's means.

const (
	maxUser   = 16
	maxBucket = 16
	maxKey    = 48
	lastKind  = 19
	lastErr   = 9999
)

// sumOf: SHA-256, by the library.
func sumOf(b []byte) []byte {
	s := sha256.Sum256(b)
	return s[:]
}

// digits: a canon number's bytes.
func digits(n uint64) string {
	return "u" + string(binary.BigEndian.AppendUint64(nil, n))
}

// counted: a canon text's or bytes' own.
func counted(mark, s string) string {
	return mark + string(binary.BigEndian.AppendUint32(nil, uint32(len(s)))) + s
}

// partsOf: the ten parts of what Show has, one by one.
func partsOf(r api.Record) []string {
	kind, err := uint64(r.Kind), uint64(r.Err)
	if r.Kind < 0 {
		kind = 0
	}
	if r.Err < 0 {
		err = 0
	}
	return []string{
		digits(r.Seq), digits(r.Clock), counted("s", r.Who), digits(kind), counted("s", r.Bucket), counted("s", r.Key),
		digits(r.Version), digits(err), counted("b", string(r.Sum)), counted("b", string(r.Prev)),
	}
}

func showSays(r api.Record) []byte { return []byte(strings.Join(partsOf(r), "")) }

func digestSays(r api.Record) []byte { return sumOf(showSays(r)) }

// rightSays: the words of "a record is right", each of them alone.
func rightSays(r api.Record) bool {
	switch {
	case r.Seq == 0:
		return false
	case r.Kind < 0, r.Kind > lastKind:
		return false
	case r.Err < 0, r.Err > lastErr:
		return false
	case len(r.Who) > maxUser, len(r.Bucket) > maxBucket, len(r.Key) > maxKey:
		return false
	case len(r.Sum) != 0 && len(r.Sum) != 32:
		return false
	case r.Seq == 1:
		return len(r.Prev) == 0
	}
	return len(r.Prev) == 32
}

// sameSays: Go's own words of all fields, where a nil list is an empty one.
func sameSays(a, b api.Record) bool { return words(a) == words(b) }

func words(r api.Record) string {
	return fmt.Sprintf("%d %d %q %d %q %q %d %d %x %x", r.Seq, r.Clock, r.Who, r.Kind, r.Bucket, r.Key, r.Version, int(r.Err), r.Sum, r.Prev)
}

func nextSays(l []api.Record, r api.Record) api.Record {
	r.Seq, r.Prev = 1, nil
	for i, last := range l {
		if i == len(l)-1 {
			r.Seq, r.Prev = last.Seq+1, digestSays(last)
		}
	}
	return r
}

// verifySays: the words of Verify in their order, from the front.
func verifySays(l []api.Record, head []byte) api.Errno {
	var ahead []byte
	for i, r := range l {
		if !rightSays(r) || i == 0 && r.Seq != 1 {
			return api.ErrChain
		}
		if i > 0 && (l[i-1].Seq == math.MaxUint64 || r.Seq != l[i-1].Seq+1 || !bytes.Equal(r.Prev, ahead)) {
			return api.ErrChain
		}
		ahead = digestSays(r)
	}
	if !bytes.Equal(head, ahead) {
		return api.ErrChain
	}
	return api.OK
}

// collisionSays: the words of Collision, over lists that are turned round.
func collisionSays(a, b []api.Record) (x, y []byte, is bool) {
	a, b = slices.Clone(a), slices.Clone(b)
	slices.Reverse(a)
	slices.Reverse(b)
	for k := 0; k < len(a) && k < len(b); k++ {
		same, one := sameSays(a[k], b[k]), bytes.Equal(digestSays(a[k]), digestSays(b[k]))
		if !same && one {
			return showSays(a[k]), showSays(b[k]), true
		}
		if !same {
			break
		}
	}
	return nil, nil, false
}

// data: n bytes that differ from place to place, and from those of another mark.
func data(n int, mark byte) []byte {
	b := make([]byte, n)
	for i := range b {
		b[i] = mark + byte(i)*7 + 1
	}
	return b
}

// text: n bytes as a text.
func text(n int, mark byte) string { return string(data(n, mark)) }

// whole: a record that is right and has something in each field.
func whole() api.Record {
	return api.Record{
		Seq: 7, Clock: 1440938160, Who: "ann", Kind: api.OpPut, Bucket: "b", Key: "k/l", Version: 0x0102030405060708,
		Err: api.ErrLocked, Sum: data(32, 1), Prev: data(32, 2),
	}
}

// with: whole, but changed.
func with(change func(r *api.Record)) api.Record {
	r := whole()
	change(&r)
	return r
}

// copied: nobody else's memory.
func copied(r api.Record) api.Record {
	r.Sum, r.Prev = bytes.Clone(r.Sum), bytes.Clone(r.Prev)
	return r
}

func copies(l []api.Record) []api.Record {
	var out []api.Record
	for _, r := range l {
		out = append(out, copied(r))
	}
	return out
}

// roomy: r, its lists with spare room in which something stands.
func roomy(r api.Record) api.Record {
	r.Sum = append(bytes.Clone(r.Sum), "spare room of Sum"...)[:len(r.Sum)]
	r.Prev = append(bytes.Clone(r.Prev), "spare room of Prev"...)[:len(r.Prev)]
	return r
}

// kept: is what roomy made of r still so?
func kept(c, r api.Record) bool {
	sum, prev := c.Sum[:len(c.Sum)+len("spare room of Sum")], c.Prev[:len(c.Prev)+len("spare room of Prev")]
	return sameSays(c, r) && string(sum[len(c.Sum):]) == "spare room of Sum" && string(prev[len(c.Prev):]) == "spare room of Prev"
}

// spoil: writes over all of b, its spare room too.
func spoil(b []byte) {
	b = b[:cap(b)]
	for i := range b {
		b[i] ^= 0x5a
	}
}

// none: is each field zero?
func none(r api.Record) bool { return words(r) == words(api.Record{}) }

// grown: a log of n records that grew by the words of Next.
func grown(n int, mark string) []api.Record {
	var l []api.Record
	for i := range n {
		r := api.Record{Clock: uint64(i), Who: mark, Kind: i % (lastKind + 1), Bucket: "b" + mark, Key: fmt.Sprint(i), Version: uint64(i * i), Err: api.Errno(i % 60)}
		if i%2 == 1 {
			r.Sum = data(32, byte(i))
		}
		l = append(l, nextSays(l, r))
	}
	return l
}

// headOf: the last one's digest, none where there is none.
func headOf(l []api.Record) []byte {
	if len(l) == 0 {
		return nil
	}
	return digestSays(l[len(l)-1])
}

// mended: l with its numbers and chain as Next makes them from record i on.
func mended(l []api.Record, i int) []api.Record {
	out := copies(l[:i])
	for _, r := range l[i:] {
		out = append(out, nextSays(out, copied(r)))
	}
	return out
}

// rightRecords: of each kind, and each edge of a field that is right.
func rightRecords() []api.Record {
	l := []api.Record{whole(), {Seq: 1}, {Seq: 1, Sum: []byte{}, Prev: []byte{}}}
	for kind := range lastKind + 1 {
		l = append(l, with(func(r *api.Record) { r.Kind = kind }))
	}
	for _, e := range []api.Errno{0, 1, 53, 9998, 9999} {
		l = append(l, with(func(r *api.Record) { r.Err = e }))
	}
	for _, n := range []uint64{0, 1, 2, 255, 256, 1 << 31, 1<<32 - 1, 1 << 32, 1<<63 - 1, 1 << 63, math.MaxUint64} {
		l = append(l, with(func(r *api.Record) { r.Clock = n }), with(func(r *api.Record) { r.Version = n }))
		if n > 1 {
			l = append(l, with(func(r *api.Record) { r.Seq = n }))
		}
	}
	l = append(l, with(func(r *api.Record) { r.Seq, r.Prev = 1, nil }), with(func(r *api.Record) { r.Sum = nil }), with(func(r *api.Record) { r.Sum = []byte{} }))
	for _, n := range []int{0, 1, 15, 16} {
		l = append(l, with(func(r *api.Record) { r.Who = text(n, 3) }), with(func(r *api.Record) { r.Bucket = text(n, 4) }))
	}
	for _, n := range []int{0, 1, 16, 17, 47, 48} {
		l = append(l, with(func(r *api.Record) { r.Key = text(n, 5) }))
	}
	return append(l, with(func(r *api.Record) {
		r.Who, r.Bucket, r.Key = strings.Repeat("\xff", maxUser), strings.Repeat("\x00", maxBucket), strings.Repeat("u", maxKey)
		r.Clock, r.Version, r.Seq, r.Kind, r.Err = math.MaxUint64, math.MaxUint64, math.MaxUint64, lastKind, lastErr
	}))
}

// wrongRecords: each of them is not right by one field alone.
func wrongRecords() map[string]api.Record {
	m := map[string]api.Record{
		"Seq 0":                     with(func(r *api.Record) { r.Seq = 0 }),
		"Seq 0 and no Prev":         with(func(r *api.Record) { r.Seq, r.Prev = 0, nil }),
		"Seq 1 and a Prev":          with(func(r *api.Record) { r.Seq = 1 }),
		"Seq 2 and no Prev":         with(func(r *api.Record) { r.Seq, r.Prev = 2, nil }),
		"greatest Seq and no Prev":  with(func(r *api.Record) { r.Seq, r.Prev = math.MaxUint64, []byte{} }),
		"Seq 1 and a Prev of 31":    with(func(r *api.Record) { r.Seq, r.Prev = 1, data(31, 1) }),
		"no field but Seq, above 1": {Seq: 2},
		"no field":                  {},
	}
	for _, n := range []int{-1, -20, math.MinInt, 20, 21, 255, 256, 257, 1 << 32, 1<<32 + 7, math.MaxInt} {
		m[fmt.Sprintf("Kind %d", n)] = with(func(r *api.Record) { r.Kind = n })
	}
	for _, n := range []api.Errno{-1, -10000, math.MinInt, 10000, 10001, 65536, 1 << 32, 1<<32 + 4, math.MaxInt} {
		m[fmt.Sprintf("Err %d", int(n))] = with(func(r *api.Record) { r.Err = n })
	}
	for _, n := range []int{1, 2, 16, 100, 1 << 16} {
		m[fmt.Sprintf("Who %d above", n)] = with(func(r *api.Record) { r.Who = text(maxUser+n, 1) })
		m[fmt.Sprintf("Bucket %d above", n)] = with(func(r *api.Record) { r.Bucket = text(maxBucket+n, 1) })
		m[fmt.Sprintf("Key %d above", n)] = with(func(r *api.Record) { r.Key = text(maxKey+n, 1) })
	}
	for _, n := range []int{1, 20, 31, 33, 64, 1 << 16} {
		m[fmt.Sprintf("Sum of %d", n)] = with(func(r *api.Record) { r.Sum = data(n, 1) })
		m[fmt.Sprintf("Prev of %d", n)] = with(func(r *api.Record) { r.Prev = data(n, 1) })
	}
	return m
}

// fields: for each field of a record, a change of it alone.
func fields() map[string]func(r *api.Record) {
	return map[string]func(r *api.Record){
		"Seq":               func(r *api.Record) { r.Seq ^= 1 << 3 },
		"Seq's highest":     func(r *api.Record) { r.Seq ^= 1 << 63 },
		"Clock":             func(r *api.Record) { r.Clock++ },
		"Clock's highest":   func(r *api.Record) { r.Clock ^= 1 << 63 },
		"Who":               func(r *api.Record) { r.Who = "bob" },
		"Who's case":        func(r *api.Record) { r.Who = "Ann" },
		"Who longer":        func(r *api.Record) { r.Who += "\x00" },
		"no Who":            func(r *api.Record) { r.Who = "" },
		"Kind":              func(r *api.Record) { r.Kind = api.OpGet },
		"Kind 0":            func(r *api.Record) { r.Kind = 0 },
		"Bucket":            func(r *api.Record) { r.Bucket = "c" },
		"no Bucket":         func(r *api.Record) { r.Bucket = "" },
		"Key":               func(r *api.Record) { r.Key = "k/m" },
		"Key shorter":       func(r *api.Record) { r.Key = "k/" },
		"no Key":            func(r *api.Record) { r.Key = "" },
		"Version":           func(r *api.Record) { r.Version-- },
		"Version's highest": func(r *api.Record) { r.Version ^= 1 << 63 },
		"Err":               func(r *api.Record) { r.Err = api.ErrHold },
		"Err OK":            func(r *api.Record) { r.Err = api.OK },
		"Sum's first":       func(r *api.Record) { r.Sum[0] ^= 1 },
		"Sum's last":        func(r *api.Record) { r.Sum[31] ^= 0x80 },
		"no Sum":            func(r *api.Record) { r.Sum = nil },
		"Prev's first":      func(r *api.Record) { r.Prev[0] ^= 1 },
		"Prev's last":       func(r *api.Record) { r.Prev[31] ^= 0x80 },
		"Sum is Prev":       func(r *api.Record) { r.Sum = bytes.Clone(r.Prev) },
		"Prev is Sum":       func(r *api.Record) { r.Prev = bytes.Clone(r.Sum) },
	}
}

// anyRecord: of chance, right or nearly so.
func anyRecord(c *rand.Rand) api.Record {
	r := api.Record{
		Seq: c.Uint64() >> c.Intn(64), Clock: c.Uint64() >> c.Intn(64), Version: c.Uint64() >> c.Intn(64),
		Who: text(c.Intn(maxUser+1), byte(c.Intn(256))), Bucket: text(c.Intn(maxBucket+1), byte(c.Intn(256))), Key: text(c.Intn(maxKey+1), byte(c.Intn(256))),
		Kind: c.Intn(lastKind + 1), Err: api.Errno(c.Intn(lastErr + 1)),
	}
	if c.Intn(2) == 0 {
		r.Sum = sumOf([]byte{byte(c.Intn(256))})
	}
	if r.Seq != 1 {
		r.Prev = sumOf([]byte{byte(c.Intn(256))})
	}
	switch c.Intn(12) {
	case 0:
		r.Kind = c.Intn(60) - 20
	case 1:
		r.Err = api.Errno(c.Intn(30000) - 10000)
	case 2:
		r.Who = text(c.Intn(2*maxUser), 1)
	case 3:
		r.Bucket, r.Key = text(c.Intn(2*maxBucket), 1), text(c.Intn(2*maxKey), 1)
	case 4:
		r.Sum = data(c.Intn(35), 1)
	case 5:
		r.Prev = data(30+c.Intn(5), 1)
	case 6:
		r.Seq = uint64(c.Intn(3))
	}
	return r
}

// checked: each call of r, held against the words.
func checked(t *testing.T, r api.Record) {
	t.Helper()
	b := show(t, r)
	got, e := read(t, b)
	if rightSays(r) && (e != api.OK || !sameSays(got, r)) {
		t.Fatalf("%s: read as %s, %d", words(r), words(got), e)
	}
	if d := audit.Digest(r); !bytes.Equal(d, sumOf(b)) {
		t.Fatalf("Digest of %s: %x", words(r), d)
	}
}
