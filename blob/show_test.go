package blob_test

import (
	"bytes"
	"encoding/binary"
	"fmt"
	"math"
	"math/rand"
	"slices"
	"strings"
	"testing"

	"stele/api"
	"stele/blob"
)

// P1203

// rightRefs: of each count of sectors, at the edges of their numbers.
func rightRefs() []blob.Ref {
	l := []blob.Ref{ref(nil), {Sum: make([]byte, 32), Sectors: []int{}}}
	for need := 1; need <= many; need++ {
		for _, n := range []int{(need-1)*size + 1, need*size - 1, need * size} {
			b := data(n, byte(n))
			turned := from(area, need)
			slices.Reverse(turned)
			l = append(l, ref(b, from(area, need)...), ref(b, from(great-need, need)...), ref(b, turned...))
		}
		far := from(500, need)
		far[0], far[need-1] = great-1, area
		l = append(l, blob.Ref{Len: need * size, Sum: bytes.Repeat([]byte{0xff}, 32), Sectors: far})
	}
	return l
}

// show: by the words, in new memory, with the ref as it was.
func show(t *testing.T, r blob.Ref) []byte {
	t.Helper()
	want := showSays(r)
	for range 2 {
		c := copied(r)
		c.Sum, c.Sectors = append(c.Sum, "spare"...)[:len(r.Sum)], append(c.Sectors, 1, 2, 3)[:len(r.Sectors)]
		b := blob.Show(c)
		if !bytes.Equal(b, want) {
			t.Fatalf("Show of %v: %x, not %x", r, b, want)
		}
		spoil(b)
		if !sameRef(c, r) || string(c.Sum[:len(c.Sum)+5]) != string(r.Sum)+"spare" || c.Sectors[:len(c.Sectors)+3][len(c.Sectors)] != 1 {
			t.Fatalf("Show of %v: it, or what is behind it, was changed", r)
		}
	}
	return want
}

func TestShowBytes(t *testing.T) {
	sum := strings.Repeat("s", 32)
	for want, r := range map[string]blob.Ref{
		"u\x00\x00\x00\x00\x00\x00\x00\x00b\x00\x00\x00\x20" + sum + "l\x00\x00\x00\x00":                                                                                                    {Sum: []byte(sum)},
		"u\x00\x00\x00\x00\x00\x00\x02\x01b\x00\x00\x00\x20" + sum + "l\x00\x00\x00\x02u\x00\x00\x00\x00\x00\x00\x0f\xffu\x00\x00\x00\x00\x00\x00\x00\x33":                                  {Len: 513, Sum: []byte(sum), Sectors: []int{4095, 51}},
		"u\x00\x00\x00\x00\x00\x00\x00\x00b\x00\x00\x00\x00l\x00\x00\x00\x00":                                                                                                               {},
		"u\x00\x00\x00\x00\x00\x00\x00\x00b\x00\x00\x00\x01zl\x00\x00\x00\x03u\x00\x00\x00\x00\x00\x00\x00\x00u\x7f\xff\xff\xff\xff\xff\xff\xffu\x00\x00\x00\x00\x00\x00\x00\x00":           {Len: -1, Sum: []byte("z"), Sectors: []int{-1, math.MaxInt, math.MinInt}},
		"u\x7f\xff\xff\xff\xff\xff\xff\xffb\x00\x00\x00\x02\x00\x00l\x00\x00\x00\x01u\x00\x00\x00\x00\x00\x00\x00\x01":                                                                      {Len: math.MaxInt, Sum: []byte{0, 0}, Sectors: []int{1}},
		"u\x00\x00\x00\x00\x00\x00\x00\x00b\x00\x00\x00\x00l\x00\x00\x00\x01u\x00\x00\x00\x00\x00\x00\x00\x00" /* the least number */ :                                                      {Len: math.MinInt, Sectors: []int{0}},
		"u\x00\x00\x00\x00\x00\x00\x18\x00b\x00\x00\x00\x21" + sum + "sl\x00\x00\x00\x03" + strings.Repeat("u\x00\x00\x00\x00\x00\x00\x00\x33", 3) /* too long a sum, one sector thrice */ : {Len: 6144, Sum: []byte(sum + "s"), Sectors: []int{51, 51, 51}},
	} {
		if got := string(show(t, r)); got != want {
			t.Errorf("Show of %v: %q", r, got)
		}
	}
}

func TestShowOfAnyRef(t *testing.T) {
	for _, r := range rightRefs() {
		show(t, r)
	}
	for _, r := range wrongRefs() {
		show(t, r)
	}
	// So many that a copy of all for each would take too long.
	r := blob.Ref{Len: 1, Sum: data(1<<20, 1), Sectors: from(-5, 1<<19)}
	show(t, r)
}

// readSays: the words of Read. The bytes of a ref are those of no other, so that it is the one that the places tell.
func readSays(b []byte) (blob.Ref, api.Errno) {
	const fixed = 9 + 5 + 32 + 5
	if len(b) < fixed || (len(b)-fixed)%9 != 0 {
		return blob.Ref{}, api.ErrForm
	}
	r := blob.Ref{Len: int(binary.BigEndian.Uint64(b[1:])), Sum: b[14:46]}
	for at := fixed; at < len(b); at += 9 {
		r.Sectors = append(r.Sectors, int(binary.BigEndian.Uint64(b[at+1:])))
	}
	if !rightSays(r) || !bytes.Equal(showSays(r), b) {
		return blob.Ref{}, api.ErrForm
	}
	return copied(r), api.OK
}

// read: by the words, in new memory, with the bytes as they were.
func read(t *testing.T, b []byte) (blob.Ref, api.Errno) {
	t.Helper()
	want, told := readSays(b)
	for range 2 {
		room := append(bytes.Clone(b), "spare room"...)
		r, e := blob.Read(room[:len(b)])
		if e != told || !sameRef(r, want) || e != api.OK && !none(r) {
			t.Fatalf("Read of %x: %v, %d; not %v, %d", b, r, e, want, told)
		}
		spoilRef(r)
		if string(room) != string(b)+"spare room" {
			t.Fatalf("Read of %x: it, or what is behind it, was changed", b)
		}
		r, _ = blob.Read(room[:len(b)])
		if spoil(room); !sameRef(r, want) {
			t.Fatalf("Read of %x: the answer shares its memory", b)
		}
	}
	return want, told
}

func TestReadOfShow(t *testing.T) {
	for _, r := range rightRefs() {
		if got, e := read(t, blob.Show(r)); e != api.OK || !sameRef(got, r) {
			t.Errorf("of %v: %v, %d", r, got, e)
		}
	}
}

func TestReadOfRefsThatAreNotRight(t *testing.T) {
	refused, told := 0, 0
	for name, r := range wrongRefs() {
		// What is below 0 is shown as 0: that may be right.
		c := copied(r)
		c.Len = max(c.Len, 0)
		for k, i := range c.Sectors {
			c.Sectors[k] = max(i, 0)
		}
		got, e := read(t, blob.Show(r))
		if rightSays(c) {
			told++
			if e != api.OK || !sameRef(got, c) {
				t.Errorf("%s: %v, %d", name, got, e)
			}
		} else {
			refused++
			if e != api.ErrForm || !none(got) {
				t.Errorf("%s: %v, %d", name, got, e)
			}
		}
	}
	if refused < 400 || told < 6 {
		t.Errorf("%d refused, %d told", refused, told)
	}
}

func TestReadOfBytesCutOff(t *testing.T) {
	for _, r := range rightRefs() {
		b := blob.Show(r)
		for n := range b {
			if got, e := read(t, b[:n]); e != api.ErrForm || !none(got) {
				t.Fatalf("%v cut off at %d: %v, %d", r, n, got, e)
			}
		}
	}
	for _, b := range [][]byte{nil, {}} {
		if got, e := blob.Read(b); e != api.ErrForm || !none(got) {
			t.Errorf("nothing: %v, %d", got, e)
		}
	}
}

func TestReadOfBytesThatGoOn(t *testing.T) {
	for _, r := range rightRefs() {
		b := blob.Show(r)
		for _, more := range []string{"\x00", "u", "t", "l\x00\x00\x00\x00", "u\x00\x00\x00\x00\x00\x00\x00\x50", "b\x00\x00\x00\x00", string(b), strings.Repeat("\x00", size-len(b))} {
			if got, e := read(t, append(bytes.Clone(b), more...)); e != api.ErrForm || !none(got) {
				t.Errorf("%v and %q: %v, %d", r, more, got, e)
			}
			if got, e := read(t, append([]byte(more), b...)); e != api.ErrForm || !none(got) {
				t.Errorf("%v behind %q: %v, %d", r, more, got, e)
			}
		}
	}
}

// Each byte turned to each other one: what is told is what these bytes show, or nothing.
func TestReadOfEachByteTurned(t *testing.T) {
	refs := []blob.Ref{ref(nil), ref(data(1, 1), area), ref(data(2*size, 1), great-1, area), ref(data(greatest, 1), from(area, many)...)}
	told := map[api.Errno]int{}
	for _, r := range refs {
		b := blob.Show(r)
		for at := range b {
			for x := range 256 {
				c := bytes.Clone(b)
				c[at] = byte(x)
				_, e := read(t, c)
				told[e]++
			}
		}
	}
	if told[api.OK] < 1000 || told[api.ErrForm] < 1000 || len(told) != 2 {
		t.Errorf("%v", told)
	}
}

// parts: bytes of a length, a sum, a list's beginning and numbers, whatever they are.
func parts(n uint64, sum string, count uint32, sectors ...uint64) []byte {
	b := binary.BigEndian.AppendUint64([]byte("u"), n)
	b = append(binary.BigEndian.AppendUint32(append(b, 'b'), uint32(len(sum))), sum...)
	b = binary.BigEndian.AppendUint32(append(b, 'l'), count)
	for _, i := range sectors {
		b = binary.BigEndian.AppendUint64(append(b, 'u'), i)
	}
	return b
}

func TestReadOfGreatNumbers(t *testing.T) {
	sum := strings.Repeat("x", 32)
	if _, e := read(t, parts(1, sum, 1, 51)); e != api.OK {
		t.Fatalf("one that is right: %d", e)
	}
	for _, n := range []uint64{greatest + 1, 1<<31 - 1, 1 << 31, 1<<32 + 1, 1<<32 - 1, 1 << 62, 1<<63 - 1, 1 << 63, 1<<63 + 1, math.MaxUint64} {
		for _, b := range [][]byte{
			parts(n, sum, 1, 51), parts(n, sum, 0), parts(n, sum, many, 51, 52, 53, 54, 55, 56, 57, 58, 59, 60, 61, 62),
			parts(n, sum, many+1, 51, 52, 53, 54, 55, 56, 57, 58, 59, 60, 61, 62, 63),
			parts(1, sum, 1, n), parts(size+1, sum, 2, 51, n), parts(size+1, sum, 2, n, n), parts(1, sum, 1, 1<<32+51), parts(1, sum, 1, 1<<63+51), parts(n, sum, 1, n),
		} {
			if r, e := read(t, b); e != api.ErrForm || !none(r) {
				t.Errorf("%x: %v, %d", b, r, e)
			}
		}
	}
	for _, i := range []uint64{0, 1, 50, 4096, 4097} {
		if r, e := read(t, parts(1, sum, 1, i)); e != api.ErrForm || !none(r) {
			t.Errorf("sector %d: %v, %d", i, r, e)
		}
	}
	for _, count := range []uint32{0, 1, 3, 4, many, many + 1, 255, 256 + 2, 1<<16 + 2, 1<<31 - 1, 1 << 31, 1<<31 + 2, math.MaxUint32} {
		if r, e := read(t, parts(size+1, sum, count, 51, 52)); e != api.ErrForm || !none(r) {
			t.Errorf("a list of %d: %v, %d", count, r, e)
		}
	}
}

func TestReadOfOtherParts(t *testing.T) {
	b := string(blob.Show(ref(data(1, 1), area)))
	for _, row := range []struct{ at, with int }{{0, 's'}, {0, 'b'}, {0, 'l'}, {0, 'U'}, {0, 't'}, {9, 's'}, {9, 'u'}, {9, 'l'}, {9, 'f'}, {46, 'b'}, {46, 's'}, {46, 'u'}, {46, 't'}, {51, 's'}, {51, 'b'}, {51, 'l'}, {51, 'f'}} {
		c := []byte(b)
		c[row.at] = byte(row.with)
		if r, e := read(t, c); e != api.ErrForm || !none(r) {
			t.Errorf("%c at %d: %v, %d", row.with, row.at, r, e)
		}
	}
	head, sum, list, sector := b[:9], b[9:46], b[46:51], b[51:]
	for name, s := range map[string]string{
		"the sum first":        sum + head + list + sector,
		"the list first":       list + sector + head + sum,
		"no length":            sum + list + sector,
		"no sum":               head + list + sector,
		"no list":              head + sum + sector,
		"no sector":            head + sum + list,
		"length twice":         head + head + sum + list + sector,
		"sum twice":            head + sum + sum + list + sector,
		"list twice":           head + sum + list + list + sector,
		"the sector ahead":     head + sum + sector + list,
		"the sector as a text": head + sum + list + "s\x00\x00\x00\x0251",
		"a text":               "1 51",
		"noughts":              strings.Repeat("\x00", len(b)),
	} {
		if r, e := read(t, []byte(s)); e != api.ErrForm || !none(r) {
			t.Errorf("%s: %v, %d", name, r, e)
		}
	}
	if r, e := read(t, []byte(head+sum+list+sector)); e != api.OK || r.Len != 1 {
		t.Errorf("as it is: %v, %d", r, e)
	}
}

func TestReadOfVeryManyBytes(t *testing.T) {
	b := blob.Show(blob.Ref{Len: 1, Sum: data(32, 1), Sectors: from(area, 1<<18)})
	if r, e := blob.Read(b); e != api.ErrForm || !none(r) {
		t.Errorf("of %d bytes: %v, %d", len(b), r, e)
	}
	b = blob.Show(blob.Ref{Len: 1, Sum: data(1<<20, 1), Sectors: from(area, 1)})
	if r, e := blob.Read(b); e != api.ErrForm || !none(r) {
		t.Errorf("of %d bytes: %v, %d", len(b), r, e)
	}
}

// Refs of chance, right or nearly so: what is told of them hangs together.
func TestRefsOfChance(t *testing.T) {
	r := rand.New(rand.NewSource(1203))
	right := 0
	for range 20000 {
		c := blob.Ref{Len: r.Intn(greatest+200) - 100, Sum: data(31+r.Intn(3), byte(r.Intn(256)))}
		if r.Intn(4) > 0 {
			c.Sum = sumOf(c.Sum)
		}
		n := needSays(c.Len)
		if r.Intn(4) == 0 {
			n = max(n+r.Intn(3)-1, 0)
		}
		for range n {
			c.Sectors = append(c.Sectors, r.Intn(great))
		}
		if r.Intn(2) == 0 {
			c.Sectors = r.Perm(great)[:n]
			for k := range c.Sectors {
				c.Sectors[k] = max(c.Sectors[k], area+k)
			}
		}
		b := show(t, c)
		got, e := read(t, b)
		if rightSays(c) {
			right++
			if e != api.OK || !sameRef(got, c) {
				t.Fatalf("%v: %v, %d", c, got, e)
			}
		}
		// Get knows the same refs as right.
		_, e = blob.Get(func(int) ([]byte, api.Errno) { return nil, 77 }, c)
		if (e == api.ErrArg) == rightSays(c) {
			t.Fatalf("Get of %v: %d", c, e)
		}
	}
	if right < 2000 || right > 18000 {
		t.Errorf("%d were right", right)
	}
}

func FuzzRead(f *testing.F) {
	f.Add([]byte{})
	f.Add(blob.Show(blob.Ref{}))
	f.Add(blob.Show(ref(nil)))
	f.Add(blob.Show(ref(data(size+1, 1), great-1, area)))
	f.Add(blob.Show(ref(data(greatest, 1), from(area, many)...)))
	f.Add(parts(math.MaxUint64, fmt.Sprint(math.MaxInt), math.MaxUint32, 1<<63))
	f.Fuzz(func(t *testing.T, b []byte) {
		if r, e := read(t, b); e == api.OK && !bytes.Equal(show(t, r), b) {
			t.Errorf("%x: %v", b, r)
		}
	})
}
