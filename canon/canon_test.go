package canon_test

import (
	"bytes"
	"fmt"
	"math"
	"math/rand"
	"strings"
	"testing"

	"stele/api"
	"stele/canon"
)

// part is one of a sequence: its sort is its mark, and one field is its value.
type part struct {
	sort byte
	n    uint64
	s    string
}

func (p part) write(out []byte) []byte {
	switch p.sort {
	case 'u':
		return canon.Uint(out, p.n)
	case 'b':
		return canon.Bytes(out, []byte(p.s))
	case 's':
		return canon.Text(out, p.s)
	case 'l':
		return canon.List(out, int(p.n))
	}
	return canon.Bool(out, p.sort == 't')
}

// bytes: as the document's words say, by fmt's digits and not by shifts.
func (p part) bytes() string {
	var hex string
	switch p.sort {
	case 'u':
		hex = fmt.Sprintf("%016x", p.n)
	case 'b', 's':
		hex = fmt.Sprintf("%08x%x", len(p.s), p.s)
	case 'l':
		hex = fmt.Sprintf("%08x", p.n)
	}
	b := []byte{p.sort}
	for ; hex != ""; hex = hex[2:] {
		var x byte
		fmt.Sscanf(hex[:2], "%02x", &x)
		b = append(b, x)
	}
	return string(b)
}

// read asks for a part of p's sort, and tells what was answered.
func (p part) read(r *canon.Reader) part {
	switch p.sort {
	case 'u':
		return part{sort: 'u', n: r.Uint()}
	case 'b':
		return part{sort: 'b', s: string(r.Bytes())}
	case 's':
		return part{sort: 's', s: r.Text()}
	case 'l':
		return part{sort: 'l', n: uint64(r.List(math.MaxInt32))}
	}
	if r.Bool() {
		return part{sort: 't'}
	}
	return part{sort: 'f'}
}

// zero: what a broken reader tells in p's place.
func (p part) zero() part {
	if p.sort == 't' {
		return part{sort: 'f'}
	}
	return part{sort: p.sort}
}

// samples: parts of each sort, with the edges of their numbers.
func samples() []part {
	l := []part{{sort: 't'}, {sort: 'f'}}
	for _, n := range []uint64{0, 1, 2, 255, 256, 258, 65535, 65536, 1<<31 - 1, 1 << 31, 1<<32 - 1, 1 << 32, 1 << 63, 1<<64 - 1, 0x0102030405060708} {
		l = append(l, part{sort: 'u', n: n})
	}
	for _, n := range []uint64{0, 1, 255, 256, 65536, 1 << 24, 0x01020304, 1<<31 - 1} {
		l = append(l, part{sort: 'l', n: n})
	}
	for _, s := range []string{"", "\x00", "a", "ab", "utsbfl", "\x00\x00\x00\x01", "ä\xff\xc3", strings.Repeat("x", 255), strings.Repeat("y", 256), strings.Repeat("z", 65536)} {
		l = append(l, part{sort: 'b', s: s}, part{sort: 's', s: s})
	}
	return l
}

func written(parts []part) []byte {
	var b []byte
	for _, p := range parts {
		b = p.write(b)
	}
	return b
}

// checkBroken: r stays where it was, and tells zero to whatever is asked.
func checkBroken(t *testing.T, what string, r *canon.Reader, left int) {
	t.Helper()
	for range 2 {
		if r.Left() != left || r.Done() != api.ErrForm {
			t.Errorf("%s: Left %d, Done %d, not %d and ErrForm", what, r.Left(), r.Done(), left)
		}
		if n := r.Uint(); n != 0 {
			t.Errorf("%s: Uint %d of a broken reader", what, n)
		}
		if b := r.Bytes(); len(b) != 0 {
			t.Errorf("%s: Bytes %q of a broken reader", what, b)
		}
		if s := r.Text(); s != "" {
			t.Errorf("%s: Text %q of a broken reader", what, s)
		}
		if r.Bool() {
			t.Errorf("%s: Bool true of a broken reader", what)
		}
		if n := r.List(math.MaxInt); n != 0 {
			t.Errorf("%s: List %d of a broken reader", what, n)
		}
	}
}

// P201

func TestWriteExample(t *testing.T) {
	for _, c := range []struct {
		got  []byte
		want string
	}{
		{canon.Text(nil, "ab"), "s\x00\x00\x00\x02ab"},
		{canon.Bytes(nil, []byte("ab")), "b\x00\x00\x00\x02ab"},
		{canon.Uint(nil, 0x0102030405060708), "u\x01\x02\x03\x04\x05\x06\x07\x08"},
		{canon.Bool(nil, true), "t"},
		{canon.Bool(nil, false), "f"},
		{canon.List(nil, 0x01020304), "l\x01\x02\x03\x04"},
		{canon.Text(nil, ""), "s\x00\x00\x00\x00"},
		{canon.Bytes(nil, nil), "b\x00\x00\x00\x00"},
		{canon.Bytes(nil, []byte{}), "b\x00\x00\x00\x00"},
		{canon.Text([]byte("so far"), "x"), "so fars\x00\x00\x00\x01x"},
	} {
		if string(c.got) != c.want {
			t.Errorf("%q, not %q", c.got, c.want)
		}
	}
}

func TestWriteEachPart(t *testing.T) {
	for _, out := range []string{"", "x", "u\x00", strings.Repeat("o", 300)} {
		for _, p := range samples() {
			if got, want := string(p.write([]byte(out))), out+p.bytes(); got != want {
				t.Errorf("%c %d behind %d bytes: %.40q, not %.40q", p.sort, p.n, len(out), got, want)
			}
		}
	}
}

func TestListOfNumbersThatCannotBe(t *testing.T) {
	for _, n := range []int{-1, -2, -258, math.MinInt32, math.MinInt, math.MaxInt32 + 1, math.MaxUint32, math.MaxUint32 + 2, math.MaxInt} {
		if got := canon.List([]byte("x"), n); string(got) != "xl\x00\x00\x00\x00" {
			t.Errorf("List of %d: %q", n, got)
		}
	}
	if got := canon.List(nil, math.MaxInt32); string(got) != "l\x7f\xff\xff\xff" {
		t.Errorf("List of 2^31 - 1: %q", got)
	}
}

func TestWriteIsNewMemory(t *testing.T) {
	for _, p := range samples() {
		room := []byte(strings.Repeat("r", 70000))
		out := room[:3]
		first := p.write(out)
		second := p.write(out)
		if strings.Trim(string(room), "r") != "" {
			t.Fatalf("%c: the spare room of out was written to", p.sort)
		}
		for i := range first[:cap(first)] {
			first[:cap(first)][i] = '!'
		}
		if strings.Trim(string(room), "r") != "" {
			t.Errorf("%c: the answer shares memory with out", p.sort)
		}
		if string(second) != "rrr"+p.bytes() {
			t.Errorf("%c: two answers share memory", p.sort)
		}
	}
}

func TestBytesOfItsOwnOut(t *testing.T) {
	room := []byte("abcdefghijklmnop")
	if got := canon.Bytes(room[:2], room[1:5]); string(got) != "abb\x00\x00\x00\x04bcde" || string(room) != "abcdefghijklmnop" {
		t.Errorf("%q, and %q was handed in", got, room)
	}
	b := []byte("abc")
	got := canon.Bytes(nil, b)
	b[0] = '!'
	if string(got) != "b\x00\x00\x00\x03abc" {
		t.Errorf("Bytes keeps what was handed in: %q", got)
	}
}

// P202

func TestReadEachPart(t *testing.T) {
	for _, p := range samples() {
		all := p.bytes() + "t"
		r := canon.Read([]byte(all))
		if r.Left() != len(all) {
			t.Errorf("%c: Left %d at the beginning, not %d", p.sort, r.Left(), len(all))
		}
		if got := p.read(r); got != p || r.Left() != 1 {
			t.Errorf("%c %d: read as %c %d %.40q, Left %d", p.sort, p.n, got.sort, got.n, got.s, r.Left())
		}
		if !r.Bool() || r.Done() != api.OK {
			t.Errorf("%c %d: the part behind it is not read", p.sort, p.n)
		}
	}
}

func TestReadAnotherSort(t *testing.T) {
	asked := []part{{sort: 'u'}, {sort: 'b'}, {sort: 's'}, {sort: 't'}, {sort: 'l'}}
	for mark := range 256 {
		for _, a := range asked {
			if byte(mark) == a.sort || a.sort == 't' && mark == 'f' {
				continue
			}
			// Behind the first part, so that to stay is not to be at the beginning.
			all := append(canon.Uint(nil, 7), byte(mark), 0, 0, 0, 0, 0, 0, 0, 1, 'x', 't')
			r := canon.Read(all)
			if r.Uint() != 7 {
				t.Fatal("the first part is not read")
			}
			what := fmt.Sprintf("%c asked of mark %d", a.sort, mark)
			if got := a.read(r); got != a.zero() {
				t.Errorf("%s: %c %d %q", what, got.sort, got.n, got.s)
			}
			checkBroken(t, what, r, len(all)-9)
		}
	}
}

func TestReadCutOffAtEachByte(t *testing.T) {
	for _, p := range samples() {
		if len(p.s) > 300 {
			continue
		}
		whole := p.bytes()
		for cut := range len(whole) {
			r := canon.Read([]byte("f" + whole[:cut]))
			r.Bool()
			what := fmt.Sprintf("%c %d of %d bytes cut off behind %d", p.sort, p.n, len(whole), cut)
			if got := p.read(r); got != p.zero() {
				t.Errorf("%s: read as %c %d %q", what, got.sort, got.n, got.s)
			}
			checkBroken(t, what, r, cut)
		}
	}
}

func TestReadMoreThanThereIs(t *testing.T) {
	for _, head := range []string{"\x00\x00\x00\x04", "\x00\x00\x01\x03", "\x00\x01\x00\x03", "\x01\x00\x00\x03", "\x7f\xff\xff\xff", "\x80\x00\x00\x03", "\xff\xff\xff\xff"} {
		for _, mark := range "bs" {
			all := string(mark) + head + "abc"
			r := canon.Read([]byte(all))
			if got := (part{sort: byte(mark)}).read(r); got.s != "" {
				t.Errorf("%q: %q", all, got.s)
			}
			checkBroken(t, fmt.Sprintf("%q", all), r, len(all))
		}
	}
}

func TestReadListMost(t *testing.T) {
	for _, n := range []int{0, 1, 4, 255, 256, math.MaxInt32} {
		all := canon.Bool(canon.List(nil, n), true)
		for _, most := range []int{n, n + 1, math.MaxInt} {
			r := canon.Read(all)
			if got := r.List(most); got != n || r.Left() != 1 || !r.Bool() || r.Done() != api.OK {
				t.Errorf("List of %d, most %d: %d, Left %d", n, most, got, r.Left())
			}
		}
		for _, most := range []int{n - 1, -1, -256, math.MinInt} {
			r := canon.Read(all)
			if got := r.List(most); got != 0 {
				t.Errorf("List of %d, most %d: %d", n, most, got)
			}
			checkBroken(t, fmt.Sprintf("List of %d, most %d", n, most), r, len(all))
		}
	}
}

// The four bytes can say more than List writes.
func TestReadListAboveWhatIsWritten(t *testing.T) {
	for _, c := range []struct {
		bytes string
		n     int
	}{{"l\x80\x00\x00\x00", 1 << 31}, {"l\xff\xff\xff\xff", math.MaxUint32}} {
		r := canon.Read([]byte(c.bytes))
		if got := r.List(c.n - 1); got != 0 || r.Done() != api.ErrForm || r.Left() != 5 {
			t.Errorf("%q with less as most: %d", c.bytes, got)
		}
		r = canon.Read([]byte(c.bytes))
		if got := r.List(c.n); got != c.n || r.Done() != api.OK {
			t.Errorf("%q: %d, not %d", c.bytes, got, c.n)
		}
	}
}

func TestReadAtTheEnd(t *testing.T) {
	for _, b := range [][]byte{nil, {}} {
		for _, a := range []part{{sort: 'u'}, {sort: 'b'}, {sort: 's'}, {sort: 't'}, {sort: 'l'}} {
			r := canon.Read(b)
			if r.Done() != api.OK || r.Left() != 0 {
				t.Errorf("a reader of nothing: Left %d, Done %d", r.Left(), r.Done())
			}
			if got := a.read(r); got != a.zero() {
				t.Errorf("%c of nothing: %v", a.sort, got)
			}
			checkBroken(t, fmt.Sprintf("%c of nothing", a.sort), r, 0)
		}
	}
}

func TestReadersShareNothing(t *testing.T) {
	b := canon.Bytes(canon.Text(nil, "abc"), []byte("def"))
	kept := bytes.Clone(b)
	one, two := canon.Read(b), canon.Read(b)
	one.Uint()
	if two.Text() != "abc" || two.Done() != api.ErrForm || two.Left() != 8 {
		t.Error("a reader is broken by another one")
	}
	for i := range b {
		b[i] = '!'
	}
	if got := two.Bytes(); string(got) != "def" || two.Done() != api.OK {
		t.Errorf("what was handed in is kept: %q", got)
	}
	r := canon.Read(kept)
	r.Text()
	r.Bytes()
	if !bytes.Equal(kept, canon.Bytes(canon.Text(nil, "abc"), []byte("def"))) {
		t.Error("what was handed in is changed")
	}
}

func TestReadBytesIsNewMemory(t *testing.T) {
	r := canon.Read(canon.Bytes(canon.Text(canon.Bytes(nil, []byte("abc")), "de"), []byte("fg")))
	first := r.Bytes()
	for i := range first[:cap(first)] {
		first[:cap(first)][i] = '!'
	}
	if s, b := r.Text(), r.Bytes(); s != "de" || string(b) != "fg" || r.Done() != api.OK {
		t.Errorf("what the caller wrote is read: %q, %q", s, b)
	}
	whole := canon.Bytes(nil, []byte("abc"))
	got := canon.Read(whole).Bytes()
	got[0] = '!'
	if whole[5] != 'a' {
		t.Error("Bytes shares memory with what was handed in")
	}
}

func TestReadOfNil(t *testing.T) {
	var r *canon.Reader
	for range 2 {
		if r.Uint() != 0 || len(r.Bytes()) != 0 || r.Text() != "" || r.Bool() || r.List(0) != 0 || r.List(-1) != 0 || r.List(9) != 0 {
			t.Error("a nil reader tells something")
		}
		if r.Left() != 0 || r.Done() != api.ErrNil {
			t.Errorf("a nil reader: Left %d, Done %d", r.Left(), r.Done())
		}
	}
}

// P203

func TestLeftAndDone(t *testing.T) {
	parts := samples()
	all := written(parts)
	r := canon.Read(all)
	left := len(all)
	for _, p := range parts {
		// Asking changes nothing.
		for range 2 {
			if r.Left() != left || r.Done() != api.ErrForm {
				t.Fatalf("ahead of %c %d: Left %d, Done %d, not %d and ErrForm", p.sort, p.n, r.Left(), r.Done(), left)
			}
		}
		if got := p.read(r); got != p {
			t.Fatalf("%c %d: read as %c %d", p.sort, p.n, got.sort, got.n)
		}
		left -= len(p.bytes())
	}
	for range 2 {
		if r.Left() != 0 || r.Done() != api.OK {
			t.Errorf("at the end: Left %d, Done %d", r.Left(), r.Done())
		}
	}
}

func TestDoneWithBytesBehind(t *testing.T) {
	for _, p := range samples() {
		for _, behind := range []string{"\x00", "t", "u", strings.Repeat("f", 20)} {
			r := canon.Read([]byte(p.bytes() + behind))
			if got := p.read(r); got != p || r.Left() != len(behind) || r.Done() != api.ErrForm {
				t.Errorf("%c %d with %d bytes behind: Left %d, Done %d", p.sort, p.n, len(behind), r.Left(), r.Done())
			}
		}
	}
}

func TestDoneOfOneThatBrokeAtTheEnd(t *testing.T) {
	r := canon.Read(canon.Bool(nil, true))
	if !r.Bool() || r.Done() != api.OK {
		t.Fatal("one truth is not read")
	}
	if r.Bool() || r.Left() != 0 || r.Done() != api.ErrForm {
		t.Errorf("one truth, asked twice: Left %d, Done %d", r.Left(), r.Done())
	}
}

// P204

func randomPart(r *rand.Rand) part {
	s := make([]byte, r.Intn(6))
	for i := range s {
		s[i] = "\x00\x01usbtfl\xff"[r.Intn(9)]
	}
	switch sort := "ubstfl"[r.Intn(6)]; sort {
	case 'u':
		return part{sort: sort, n: r.Uint64() >> r.Intn(64)}
	case 'l':
		return part{sort: sort, n: uint64(r.Int31()) >> r.Intn(31)}
	case 'b', 's':
		return part{sort: sort, s: string(s)}
	default:
		return part{sort: sort}
	}
}

func TestBack(t *testing.T) {
	random := rand.New(rand.NewSource(204))
	seen := map[string]string{}
	for range 20000 {
		parts := make([]part, random.Intn(8))
		for i := range parts {
			parts[i] = randomPart(random)
		}
		all := written(parts)
		r := canon.Read(all)
		for _, p := range parts {
			if got := p.read(r); got != p {
				t.Fatalf("%v read as %v", p, got)
			}
		}
		if r.Done() != api.OK {
			t.Fatalf("%v is not done: %d left", parts, r.Left())
		}
		name := fmt.Sprintf("%#v", parts)
		if other, ok := seen[string(all)]; ok && other != name {
			t.Fatalf("%s and %s have the same bytes", other, name)
		}
		seen[string(all)] = name
	}
}

// No part's bytes are the beginning of another's: with that, bytes can be cut into parts in one way alone.
func TestNoPartBeginsAnother(t *testing.T) {
	parts := samples()
	for i, p := range parts {
		for j, q := range parts {
			if i != j && bytes.HasPrefix(q.write(nil), p.write(nil)) {
				t.Errorf("%c %d %.20q begins %c %d %.20q", p.sort, p.n, p.s, q.sort, q.n, q.s)
			}
		}
	}
}

// Whatever a reader takes is written again as the same bytes.
func TestTakenBytesAreTheOnlyOnes(t *testing.T) {
	random := rand.New(rand.NewSource(4))
	taken := 0
	for range 100000 {
		b := make([]byte, random.Intn(14))
		for i := range b {
			b[i] = "\x00\x00\x00\x01\x02usbtflx"[random.Intn(12)]
		}
		var again []byte
		r := canon.Read(b)
		for r.Left() > 0 {
			p := part{sort: b[len(b)-r.Left()]}
			left := r.Left()
			got := p.read(r)
			if r.Left() == left {
				break
			}
			again = got.write(again)
		}
		if !bytes.Equal(again, b[:len(b)-r.Left()]) {
			t.Fatalf("%q was read, and is written as %q", b, again)
		}
		if r.Done() == api.OK && len(b) > 0 {
			taken++
		}
	}
	if taken == 0 {
		t.Error("nothing was taken whole")
	}
}
