package audit_test

import (
	"bytes"
	"encoding/binary"
	"fmt"
	"math"
	"math/rand"
	"slices"
	"strings"
	"testing"

	"stele/api"
	"stele/audit"
)

// P1401

// show: by the words, in new memory, with the record as it was.
func show(t *testing.T, r api.Record) []byte {
	t.Helper()
	want := showSays(r)
	for range 2 {
		c := roomy(r)
		b := audit.Show(c)
		if !bytes.Equal(b, want) {
			t.Fatalf("Show of %s: %x, not %x", words(r), b, want)
		}
		if spoil(b); !kept(c, r) {
			t.Fatalf("Show of %s: it, or what is behind its lists, was changed", words(r))
		}
	}
	return want
}

// readSays: the words of Read. The parts are cut off one by one, whatever they are, and must be the bytes again.
func readSays(b []byte) (api.Record, api.Errno) {
	rest, whole := b, true
	cut := func(n int) []byte {
		if n < 0 || n > len(rest) {
			whole, n = false, len(rest)
		}
		x := rest[:n]
		rest = rest[n:]
		return x
	}
	number := func() uint64 {
		if x := cut(9); len(x) == 9 {
			return binary.BigEndian.Uint64(x[1:])
		}
		return 0
	}
	list := func() []byte {
		if x := cut(5); len(x) == 5 {
			return cut(int(binary.BigEndian.Uint32(x[1:])))
		}
		return nil
	}
	r := api.Record{Seq: number(), Clock: number(), Who: string(list()), Kind: int(number()), Bucket: string(list()), Key: string(list())}
	r.Version, r.Err, r.Sum, r.Prev = number(), api.Errno(number()), list(), list()
	if !whole || !rightSays(r) || !bytes.Equal(showSays(r), b) {
		return api.Record{}, api.ErrForm
	}
	return copied(r), api.OK
}

// read: by the words, in new memory, with the bytes as they were.
func read(t *testing.T, b []byte) (api.Record, api.Errno) {
	t.Helper()
	want, told := readSays(b)
	for range 2 {
		room := append(bytes.Clone(b), "spare room"...)
		r, e := audit.Read(room[:len(b)])
		if e != told || !sameSays(r, want) || e != api.OK && !none(r) {
			t.Fatalf("Read of %x: %s, %d; not %s, %d", b, words(r), e, words(want), told)
		}
		sum := bytes.Clone(r.Sum)
		spoil(r.Prev)
		if !bytes.Equal(r.Sum, sum) {
			t.Fatalf("Read of %x: Sum and Prev share their memory", b)
		}
		if spoil(r.Sum); string(room) != string(b)+"spare room" {
			t.Fatalf("Read of %x: it, or what is behind it, was changed", b)
		}
		r, _ = audit.Read(room[:len(b)])
		if spoil(room); !sameSays(r, want) {
			t.Fatalf("Read of %x: the answer shares its memory", b)
		}
	}
	return want, told
}

func TestShowBytes(t *testing.T) {
	sum, prev := strings.Repeat("s", 32), strings.Repeat("p", 32)
	zero := "u\x00\x00\x00\x00\x00\x00\x00\x00"
	for want, r := range map[string]api.Record{
		zero + zero + "s\x00\x00\x00\x00" + zero + "s\x00\x00\x00\x00" + "s\x00\x00\x00\x00" + zero + zero + "b\x00\x00\x00\x00" + "b\x00\x00\x00\x00": {},
		"u\x00\x00\x00\x00\x00\x00\x01\x02" + "u\x00\x00\x00\x03\x04\x05\x06\x07" + "s\x00\x00\x00\x03ann" + "u\x00\x00\x00\x00\x00\x00\x00\x07" +
			"s\x00\x00\x00\x01b" + "s\x00\x00\x00\x03k/l" + "u\x08\x09\x0a\x0b\x0c\x0d\x0e\x0f" + "u\x00\x00\x00\x00\x00\x00\x00\x25" + "b\x00\x00\x00\x20" + sum + "b\x00\x00\x00\x20" + prev: {
			Seq: 258, Clock: 0x0304050607, Who: "ann", Kind: 7, Bucket: "b", Key: "k/l", Version: 0x08090a0b0c0d0e0f, Err: 37, Sum: []byte(sum), Prev: []byte(prev)},
		"u\xff\xff\xff\xff\xff\xff\xff\xff" + "u\xff\xff\xff\xff\xff\xff\xff\xff" + "s\x00\x00\x00\x00" + "u\x7f\xff\xff\xff\xff\xff\xff\xff" +
			"s\x00\x00\x00\x00" + "s\x00\x00\x00\x00" + "u\xff\xff\xff\xff\xff\xff\xff\xff" + "u\x7f\xff\xff\xff\xff\xff\xff\xff" + "b\x00\x00\x00\x01a" + "b\x00\x00\x00\x00": {
			Seq: math.MaxUint64, Clock: math.MaxUint64, Kind: math.MaxInt, Version: math.MaxUint64, Err: math.MaxInt, Sum: []byte("a")},
		"u\x00\x00\x00\x00\x00\x00\x00\x01" + zero + "s\x00\x00\x00\x02\x00\xff" + zero + "s\x00\x00\x00\x00" + "s\x00\x00\x00\x00" + zero + zero + "b\x00\x00\x00\x00" + "b\x00\x00\x00\x02\x00\x00": {
			Seq: 1, Who: "\x00\xff", Kind: -1, Err: -1, Prev: []byte{0, 0}},
	} {
		if got := string(show(t, r)); got != want {
			t.Errorf("Show of %s: %q", words(r), got)
		}
	}
}

// Of a negative number Show has 0; of no other.
func TestShowOfNegativeNumbers(t *testing.T) {
	zero := with(func(r *api.Record) { r.Kind, r.Err = 0, 0 })
	for _, n := range []int{-1, -2, -256, math.MinInt32, math.MinInt + 1, math.MinInt} {
		for _, r := range []api.Record{
			with(func(r *api.Record) { r.Kind, r.Err = n, 0 }), with(func(r *api.Record) { r.Kind, r.Err = 0, api.Errno(n) }), with(func(r *api.Record) { r.Kind, r.Err = n, api.Errno(n) }),
		} {
			b := show(t, r)
			if !bytes.Equal(b, audit.Show(zero)) {
				t.Errorf("Show of %s: %x", words(r), b)
			}
			if got, e := read(t, b); e != api.OK || !audit.Same(got, zero) {
				t.Errorf("read back, %s: %s, %d", words(r), words(got), e)
			}
		}
	}
	for _, n := range []int{1, math.MaxInt32, math.MaxInt} {
		if r := with(func(r *api.Record) { r.Kind, r.Err = n, api.Errno(n) }); bytes.Equal(show(t, r), audit.Show(zero)) {
			t.Errorf("Show of %s is that of 0", words(r))
		}
	}
}

func TestShowOfAnyRecord(t *testing.T) {
	for _, r := range rightRecords() {
		show(t, r)
	}
	for _, r := range wrongRecords() {
		show(t, r)
	}
	show(t, api.Record{Who: text(1<<20, 1), Bucket: text(1<<20, 2), Key: text(1<<20, 3), Sum: data(1<<20, 4), Prev: data(1<<20, 5)})
}

func TestReadOfShow(t *testing.T) {
	for _, r := range rightRecords() {
		if got, e := read(t, audit.Show(r)); e != api.OK || !sameSays(got, r) {
			t.Errorf("of %s: %s, %d", words(r), words(got), e)
		}
	}
}

func TestReadOfRecordsThatAreNotRight(t *testing.T) {
	refused := 0
	for name, r := range wrongRecords() {
		got, e := read(t, audit.Show(r))
		if r.Kind < 0 || r.Err < 0 {
			// It is shown as 0, and that is right.
			if r.Kind, r.Err = max(r.Kind, 0), max(r.Err, 0); e != api.OK || !sameSays(got, r) {
				t.Errorf("%s: %s, %d", name, words(got), e)
			}
			continue
		}
		refused++
		if e != api.ErrForm || !none(got) {
			t.Errorf("%s: %s, %d", name, words(got), e)
		}
	}
	if refused < 40 {
		t.Errorf("only %d were refused", refused)
	}
}

func TestReadOfEachLength(t *testing.T) {
	for n := range 70 {
		for name, row := range map[string]struct {
			r     api.Record
			right bool
		}{
			"Who":              {with(func(r *api.Record) { r.Who = text(n, 1) }), n <= 16},
			"Bucket":           {with(func(r *api.Record) { r.Bucket = text(n, 1) }), n <= 16},
			"Key":              {with(func(r *api.Record) { r.Key = text(n, 1) }), n <= 48},
			"Sum":              {with(func(r *api.Record) { r.Sum = data(n, 1) }), n == 0 || n == 32},
			"Prev":             {with(func(r *api.Record) { r.Prev = data(n, 1) }), n == 32},
			"Prev of Seq 2":    {with(func(r *api.Record) { r.Seq, r.Prev = 2, data(n, 1) }), n == 32},
			"Prev of Seq 1":    {with(func(r *api.Record) { r.Seq, r.Prev = 1, data(n, 1) }), n == 0},
			"Prev of Seq 0":    {with(func(r *api.Record) { r.Seq, r.Prev = 0, data(n, 1) }), false},
			"Prev of greatest": {with(func(r *api.Record) { r.Seq, r.Prev = math.MaxUint64, data(n, 1) }), n == 32},
		} {
			got, e := read(t, audit.Show(row.r))
			if (e == api.OK) != row.right || e != api.OK && e != api.ErrForm || row.right && !sameSays(got, row.r) {
				t.Errorf("%s of %d: %s, %d", name, n, words(got), e)
			}
		}
	}
}

func TestReadOfBytesCutOff(t *testing.T) {
	for _, r := range rightRecords() {
		b := audit.Show(r)
		for n := range b {
			if got, e := read(t, b[:n]); e != api.ErrForm || !none(got) {
				t.Fatalf("%s cut off at %d: %s, %d", words(r), n, words(got), e)
			}
			if got, e := read(t, b[n+1:]); e != api.ErrForm || !none(got) {
				t.Fatalf("%s without its first %d: %s, %d", words(r), n+1, words(got), e)
			}
		}
	}
	for _, b := range [][]byte{nil, {}} {
		if got, e := audit.Read(b); e != api.ErrForm || !none(got) {
			t.Errorf("nothing: %s, %d", words(got), e)
		}
	}
}

func TestReadOfBytesThatGoOn(t *testing.T) {
	for _, r := range rightRecords() {
		b := audit.Show(r)
		for _, more := range []string{"\x00", "\n", "u", "t", "f", "l\x00\x00\x00\x00", "b\x00\x00\x00\x00", "s\x00\x00\x00\x00", digits(1), string(b)} {
			if got, e := read(t, append(bytes.Clone(b), more...)); e != api.ErrForm || !none(got) {
				t.Errorf("%s and %q: %s, %d", words(r), more, words(got), e)
			}
			if got, e := read(t, append([]byte(more), b...)); e != api.ErrForm || !none(got) {
				t.Errorf("%s behind %q: %s, %d", words(r), more, words(got), e)
			}
		}
	}
}

// Each byte turned to each other one: what is told is what these bytes show, or nothing.
func TestReadOfEachByteTurned(t *testing.T) {
	told := map[api.Errno]int{}
	for _, r := range []api.Record{whole(), {Seq: 1}, {Seq: 2, Prev: data(32, 1)}} {
		b := audit.Show(r)
		for at := range b {
			for x := range 256 {
				c := bytes.Clone(b)
				c[at] = byte(x)
				_, e := read(t, c)
				told[e]++
			}
		}
	}
	if told[api.OK] < 1000 || told[api.ErrForm] < 1000 || len(told) != 2 {
		t.Errorf("%v", told)
	}
}

// A number that an int has no more must not come round to one that is right.
func TestReadOfGreatNumbers(t *testing.T) {
	for _, n := range []uint64{20, 10000, 255, 256, 1<<31 - 1, 1 << 31, 1<<31 + 7, 1<<32 - 1, 1 << 32, 1<<32 + 7, 1<<63 - 1, 1 << 63, 1<<63 + 7, math.MaxUint64 - 6, math.MaxUint64} {
		for _, at := range []int{3, 7} {
			parts := partsOf(whole())
			parts[at] = digits(n)
			r, e := read(t, []byte(strings.Join(parts, "")))
			if at == 7 && n <= 9999 {
				if e != api.OK || uint64(r.Err) != n {
					t.Errorf("Err %d: %s, %d", n, words(r), e)
				}
			} else if e != api.ErrForm || !none(r) {
				t.Errorf("%d as part %d: %s, %d", n, at, words(r), e)
			}
		}
		// The other numbers may be any, but Seq 0.
		for _, at := range []int{0, 1, 6} {
			parts := partsOf(whole())
			parts[at] = digits(n)
			if r, e := read(t, []byte(strings.Join(parts, ""))); e != api.OK || r.Seq != n && r.Clock != n && r.Version != n {
				t.Errorf("%d as part %d: %s, %d", n, at, words(r), e)
			}
		}
	}
}

func TestReadOfLengthsThatTellMore(t *testing.T) {
	for _, r := range []api.Record{whole(), {Seq: 1}} {
		for _, at := range []int{2, 4, 5, 8, 9} {
			for _, n := range []uint32{uint32(len(partsOf(r)[at])) - 4, 33, 64, 256, 1 << 16, 1 << 24, 1<<31 - 1, 1 << 31, math.MaxUint32} {
				parts := partsOf(r)
				head := []byte(parts[at])
				binary.BigEndian.PutUint32(head[1:], n)
				parts[at] = string(head)
				if got, e := read(t, []byte(strings.Join(parts, ""))); e != api.ErrForm || !none(got) {
					t.Errorf("%s, part %d of %d: %s, %d", words(r), at, n, words(got), e)
				}
			}
		}
	}
}

func TestReadOfOtherParts(t *testing.T) {
	parts := partsOf(whole())
	at := func(change func(l []string) []string) {
		t.Helper()
		b := []byte(strings.Join(change(slices.Clone(parts)), ""))
		if got, e := read(t, b); e != api.ErrForm || !none(got) {
			t.Errorf("%q: %s, %d", b, words(got), e)
		}
	}
	for k := range parts {
		at(func(l []string) []string { return slices.Delete(l, k, k+1) })
		at(func(l []string) []string { return slices.Insert(l, k, l[k]) })
		for _, mark := range "usbtflUSB\x00" {
			if byte(mark) != parts[k][0] {
				at(func(l []string) []string { l[k] = string(mark) + l[k][1:]; return l })
			}
		}
		for _, other := range []string{"t", "f", "l\x00\x00\x00\x01", "", fmt.Sprint(k)} {
			at(func(l []string) []string { l[k] = other; return l })
		}
		for j := range k {
			// Of the numbers all but Clock and Version are too small, or too great, for each other's place here.
			if parts[j][0] != parts[k][0] {
				at(func(l []string) []string { l[j], l[k] = l[k], l[j]; return l })
			}
		}
	}
	if got, e := read(t, []byte(strings.Join(parts, ""))); e != api.OK || !sameSays(got, whole()) {
		t.Errorf("as it is: %s, %d", words(got), e)
	}
	if got, e := read(t, make([]byte, len(strings.Join(parts, "")))); e != api.ErrForm || !none(got) {
		t.Errorf("noughts: %s, %d", words(got), e)
	}
}

// Each part lands in its own field: the order is that of the words.
func TestReadOrder(t *testing.T) {
	b := []byte(digits(2) + digits(3) + counted("s", "w") + digits(4) + counted("s", "b") + counted("s", "k") + digits(5) + digits(6) +
		counted("b", strings.Repeat("S", 32)) + counted("b", strings.Repeat("P", 32)))
	r, e := read(t, b)
	if e != api.OK || r.Seq != 2 || r.Clock != 3 || r.Who != "w" || r.Kind != 4 || r.Bucket != "b" || r.Key != "k" || r.Version != 5 || r.Err != 6 || string(r.Sum) != strings.Repeat("S", 32) || string(r.Prev) != strings.Repeat("P", 32) {
		t.Errorf("%s, %d", words(r), e)
	}
}

func TestReadOfVeryManyBytes(t *testing.T) {
	for _, b := range [][]byte{audit.Show(with(func(r *api.Record) { r.Who = text(1<<22, 1) })), audit.Show(with(func(r *api.Record) { r.Prev = data(1<<22, 1) })), make([]byte, 1<<22), bytes.Repeat(audit.Show(whole()), 1<<12)} {
		if r, e := audit.Read(b); e != api.ErrForm || !none(r) {
			t.Errorf("of %d bytes: %s, %d", len(b), words(r), e)
		}
	}
}

func TestRecordsOfChance(t *testing.T) {
	c := rand.New(rand.NewSource(1401))
	right := 0
	for range 20000 {
		r := anyRecord(c)
		checked(t, r)
		if rightSays(r) {
			right++
		}
	}
	if right < 8000 || right > 19000 {
		t.Errorf("%d were right", right)
	}
}

func FuzzRead(f *testing.F) {
	f.Add([]byte{})
	for _, r := range rightRecords() {
		f.Add(showSays(r))
	}
	f.Add(showSays(api.Record{}))
	f.Fuzz(func(t *testing.T, b []byte) {
		if r, e := read(t, b); e == api.OK && !bytes.Equal(show(t, r), b) {
			t.Errorf("%x: %s", b, words(r))
		}
	})
}
