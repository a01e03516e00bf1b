package audit_test

import (
	"bytes"
	"fmt"
	"math"
	"math/rand"
	"slices"
	"testing"

	"stele/api"
	"stele/audit"
)

// P1402

func TestDigest(t *testing.T) {
	all := append(rightRecords(), api.Record{})
	for _, r := range wrongRecords() {
		all = append(all, r)
	}
	for _, r := range all {
		c := roomy(r)
		d := audit.Digest(c)
		if !bytes.Equal(d, sumOf(audit.Show(r))) || !bytes.Equal(d, digestSays(r)) || len(d) != 32 {
			t.Errorf("of %s: %x", words(r), d)
		}
		spoil(d)
		if !kept(c, r) || !bytes.Equal(audit.Digest(c), digestSays(r)) {
			t.Errorf("of %s: it was changed, or shares memory", words(r))
		}
	}
}

// A digest by hand, from the bytes of the first record that says nothing.
func TestDigestBytes(t *testing.T) {
	zero := "u\x00\x00\x00\x00\x00\x00\x00\x00"
	b := "u\x00\x00\x00\x00\x00\x00\x00\x01" + zero + "s\x00\x00\x00\x00" + zero + "s\x00\x00\x00\x00s\x00\x00\x00\x00" + zero + zero + "b\x00\x00\x00\x00b\x00\x00\x00\x00"
	if got := audit.Digest(api.Record{Seq: 1}); !bytes.Equal(got, sumOf([]byte(b))) {
		t.Errorf("%x", got)
	}
}

func TestDigestOfEachFieldIsAnother(t *testing.T) {
	for name, change := range fields() {
		r := with(func(r *api.Record) { change(r) })
		if bytes.Equal(audit.Digest(r), audit.Digest(whole())) {
			t.Errorf("%s: the digest is the same", name)
		}
	}
	// What goes from one text to the next is told apart too.
	a, b := with(func(r *api.Record) { r.Bucket, r.Key = "ab", "c" }), with(func(r *api.Record) { r.Bucket, r.Key = "a", "bc" })
	if bytes.Equal(audit.Digest(a), audit.Digest(b)) {
		t.Error("a bucket ab with a key c has the digest of a bucket a with a key bc")
	}
}

// next: by the words, in new memory, with all that was handed in as it was.
func next(t *testing.T, l []api.Record, r api.Record) api.Record {
	t.Helper()
	want := nextSays(l, r)
	var room []api.Record
	for _, x := range l {
		room = append(room, roomy(x))
	}
	room = append(room, api.Record{Who: "spare"})[:len(l)]
	c := roomy(r)
	for range 2 {
		got := audit.Next(room, c)
		if !sameSays(got, want) {
			t.Fatalf("Next of %d records and %s: %s, not %s", len(l), words(r), words(got), words(want))
		}
		spoil(got.Prev)
		if !bytes.Equal(got.Sum, want.Sum) {
			t.Fatalf("Next of %s: Sum and Prev share their memory", words(r))
		}
		spoil(got.Sum)
		if !kept(c, r) || room[:len(l)+1][len(l)].Who != "spare" {
			t.Fatalf("Next of %s: it, or what is behind it, was changed", words(r))
		}
		for i, x := range room {
			if !kept(x, l[i]) {
				t.Fatalf("Next: record %d of the list was changed", i)
			}
		}
	}
	got := audit.Next(room, c)
	spoil(c.Sum)
	spoil(c.Prev)
	if !sameSays(got, want) {
		t.Fatalf("Next of %s: the answer shares memory with it", words(r))
	}
	return got
}

func TestNextOfNoRecord(t *testing.T) {
	for _, l := range [][]api.Record{nil, {}, grown(3, "a")[:0]} {
		for _, r := range append(rightRecords(), api.Record{}) {
			got := next(t, l, r)
			if got.Seq != 1 || len(got.Prev) != 0 {
				t.Errorf("%s: Seq %d, Prev %x", words(r), got.Seq, got.Prev)
			}
		}
	}
}

func TestNextBehindEachRecord(t *testing.T) {
	others := append(rightRecords(), api.Record{})
	for _, r := range wrongRecords() {
		others = append(others, r)
	}
	for _, last := range others {
		for _, l := range [][]api.Record{{last}, {whole(), last}, {last, last}, append(grown(5, "a"), last)} {
			got := next(t, l, whole())
			if last.Seq < math.MaxUint64 && got.Seq != last.Seq+1 || !bytes.Equal(got.Prev, sumOf(audit.Show(last))) {
				t.Errorf("behind %s: Seq %d, Prev %x", words(last), got.Seq, got.Prev)
			}
		}
	}
	// What is handed in as Seq and Prev means nothing, and all else comes through, right or not.
	for _, r := range others {
		got := next(t, grown(4, "a"), r)
		if r.Seq, r.Prev = 5, headOf(grown(4, "a")); !sameSays(got, r) {
			t.Errorf("%s, not %s", words(got), words(r))
		}
	}
}

// There is no number above the greatest: what comes behind it is no right record.
func TestNextBehindTheGreatest(t *testing.T) {
	last := with(func(r *api.Record) { r.Seq = math.MaxUint64 })
	got := audit.Next([]api.Record{last}, whole())
	if _, e := audit.Read(audit.Show(got)); e != api.ErrForm || !bytes.Equal(got.Prev, digestSays(last)) {
		t.Errorf("%s: %d", words(got), e)
	}
	if e := audit.Verify([]api.Record{last, got}, audit.Digest(got)); e != api.ErrChain {
		t.Errorf("verified: %d", e)
	}
	last.Seq--
	if got = audit.Next([]api.Record{last}, whole()); got.Seq != math.MaxUint64 {
		t.Errorf("behind the last but one: %d", got.Seq)
	}
}

// Next looks at the last record alone, whatever stands ahead of it.
func TestNextHangsOnTheLastAlone(t *testing.T) {
	l := grown(6, "a")
	x := copies(l)
	for i := range 5 {
		x[i] = api.Record{Seq: 99, Who: "else"}
	}
	for _, list := range [][]api.Record{l, x, l[5:]} {
		if got := next(t, list, whole()); got.Seq != 7 || !bytes.Equal(got.Prev, digestSays(l[5])) {
			t.Errorf("%s", words(got))
		}
	}
}

// P1403

// verify: by the words, twice, with all that was handed in as it was.
func verify(t *testing.T, l []api.Record, head []byte) api.Errno {
	t.Helper()
	want := verifySays(l, head)
	var room []api.Record
	for _, r := range l {
		room = append(room, roomy(r))
	}
	top := append(bytes.Clone(head), "spare"...)[:len(head)]
	for range 2 {
		if e := audit.Verify(room, top); e != want {
			t.Fatalf("Verify of %d records by %x: %d, not %d", len(l), head, e, want)
		}
	}
	for i, r := range room {
		if !kept(r, l[i]) {
			t.Fatalf("Verify: record %d was changed", i)
		}
	}
	if string(top[:len(head)+5]) != string(head)+"spare" {
		t.Fatal("Verify: the head was changed")
	}
	return want
}

// refused: ErrChain, by the words and by the program.
func refused(t *testing.T, what string, l []api.Record, head []byte) {
	t.Helper()
	if e := verify(t, l, head); e != api.ErrChain {
		t.Errorf("%s: %d", what, e)
	}
}

func verified(t *testing.T, what string, l []api.Record, head []byte) {
	t.Helper()
	if e := verify(t, l, head); e != api.OK {
		t.Errorf("%s: %d", what, e)
	}
}

// The document's example.
func TestExample(t *testing.T) {
	one := []api.Record{audit.Next(nil, api.Record{Who: "ann", Kind: api.OpPut})}
	two := []api.Record{audit.Next(nil, api.Record{Who: "bob", Kind: api.OpPut})}
	head := audit.Digest(one[0])
	if a, b := audit.Verify(one, head), audit.Verify(two, head); a != api.OK || b != api.ErrChain {
		t.Errorf("%d, %d", a, b)
	}
}

func TestVerifyOfNoRecord(t *testing.T) {
	for _, l := range [][]api.Record{nil, {}} {
		verified(t, "no head", l, nil)
		verified(t, "an empty head", l, []byte{})
		for _, n := range []int{1, 31, 32, 33, 64} {
			refused(t, fmt.Sprintf("a head of %d", n), l, data(n, 1))
			refused(t, fmt.Sprintf("%d noughts", n), l, make([]byte, n))
		}
		refused(t, "the digest of nothing", l, sumOf(nil))
		refused(t, "the digest of no record", l, audit.Digest(api.Record{}))
	}
}

func TestVerifyAtEachLength(t *testing.T) {
	var l []api.Record
	for i := range 200 {
		l = append(l, audit.Next(l, api.Record{Who: "ann", Clock: uint64(i / 3), Kind: i % 20, Err: api.Errno(i * 50), Key: text(i%49, 1)}))
		verified(t, fmt.Sprint(i+1), l, audit.Digest(l[i]))
		if i > 0 {
			refused(t, "the head of the one ahead", l, audit.Digest(l[i-1]))
			refused(t, "the last one missing", l[:i], audit.Digest(l[i]))
			refused(t, "the first one missing", l[1:], audit.Digest(l[i]))
		}
	}
}

func TestVerifyOfHeads(t *testing.T) {
	for _, n := range []int{1, 2, 3, 20} {
		l := grown(n, "a")
		head := headOf(l)
		verified(t, "its own", l, head)
		refused(t, "nil", l, nil)
		refused(t, "empty", l, []byte{})
		refused(t, "31 bytes", l, head[:31])
		refused(t, "the last 31", l, head[1:])
		refused(t, "33 bytes", l, append(bytes.Clone(head), 0))
		refused(t, "twice", l, append(bytes.Clone(head), head...))
		refused(t, "its Prev", l, l[n-1].Prev)
		refused(t, "noughts", l, make([]byte, 32))
		refused(t, "another log's", l, headOf(grown(n, "b")))
		refused(t, "the next one's", l, headOf(grown(n+1, "a")))
		for at := range head {
			for bit := range 8 {
				x := bytes.Clone(head)
				x[at] ^= 1 << bit
				refused(t, "one bit turned", l, x)
			}
		}
		for i := range n - 1 {
			refused(t, "an elder one's", l, digestSays(l[i]))
		}
	}
}

// One record that is not right, with all behind it hung on it as Next would: nothing else is wrong.
func TestVerifyOfRecordsThatAreNotRight(t *testing.T) {
	for name, wrong := range wrongRecords() {
		for _, n := range []int{1, 2, 7} {
			for at := range n {
				l := grown(n, "a")
				r := copied(wrong)
				// Its number and its chain are right, where the name does not speak of them.
				ahead := nextSays(l[:at], r)
				if wrong.Seq == 7 && len(wrong.Prev) == 32 {
					r.Seq, r.Prev = ahead.Seq, ahead.Prev
				} else if wrong.Seq == 7 {
					r.Seq = ahead.Seq
				}
				l[at] = r
				for i := at + 1; i < n; i++ {
					l[i].Prev = digestSays(l[i-1])
				}
				refused(t, fmt.Sprintf("%s at %d of %d", name, at, n), l, headOf(l))
			}
		}
	}
}

func TestVerifyOfRightEdges(t *testing.T) {
	all := rightRecords()
	l := mended(all, 0)
	verified(t, "all that are right", l, headOf(l))
	for _, r := range all {
		l := mended([]api.Record{r, whole(), r}, 0)
		verified(t, words(r), l, headOf(l))
		verified(t, words(r), l[:1], headOf(l[:1]))
	}
}

// The first Seq is another, and all others count on from it.
func TestVerifyOfOtherBeginnings(t *testing.T) {
	for _, first := range []uint64{0, 2, 3, 255, 256, 1 << 32, 1<<32 + 1, 1 << 63, math.MaxUint64 - 2, math.MaxUint64} {
		for _, prev := range [][]byte{nil, data(32, 1), make([]byte, 32), sumOf(nil)} {
			l := []api.Record{{Seq: first, Prev: prev, Who: "ann"}}
			for range 4 {
				refused(t, fmt.Sprintf("%d records from %d", len(l), first), l, headOf(l))
				l = append(l, nextSays(l, whole()))
			}
		}
	}
	refused(t, "Seq 1 with a Prev", []api.Record{{Seq: 1, Prev: data(32, 1)}}, digestSays(api.Record{Seq: 1, Prev: data(32, 1)}))
	l := grown(9, "a")
	for i := 1; i < 9; i++ {
		refused(t, "the tail of a log", l[i:], headOf(l))
	}
}

// One Seq is another, and the Prevs behind it hang on it as it is.
func TestVerifyOfOtherNumbers(t *testing.T) {
	for at := range 6 {
		for _, seq := range []uint64{0, 1, 2, 3, 4, 5, 6, 7, 8, 257, 1<<32 + uint64(at) + 1, 1<<63 + uint64(at) + 1, math.MaxUint64} {
			l := grown(6, "a")
			if l[at].Seq == seq {
				continue
			}
			l[at].Seq = seq
			refused(t, "a number", l, headOf(l))
			for i := at + 1; i < 6; i++ {
				l[i].Prev = digestSays(l[i-1])
			}
			refused(t, "a number with the chain mended", l, headOf(l))
			for i := at + 1; i < 6; i++ {
				l[i] = nextSays(l[:i], l[i])
			}
			if at < 5 {
				refused(t, "a number from which is counted on", l, headOf(l))
			}
		}
	}
}

// One Prev is another, and those behind it hang on it as it is.
func TestVerifyOfOtherPrevs(t *testing.T) {
	for at := range 6 {
		l := grown(6, "a")
		others := [][]byte{nil, {}, data(32, 1), make([]byte, 32), data(31, 1), data(33, 1), headOf(l), sumOf(nil)}
		for i := range l {
			others = append(others, l[i].Prev)
		}
		if own := l[at].Prev; len(own) == 32 {
			for bit := range 256 {
				x := bytes.Clone(own)
				x[bit/8] ^= 1 << (bit % 8)
				others = append(others, x)
			}
			others = append(others, own[:31], append(bytes.Clone(own), 0))
		}
		for _, prev := range others {
			x := grown(6, "a")
			if bytes.Equal(x[at].Prev, prev) {
				continue
			}
			x[at].Prev = bytes.Clone(prev)
			refused(t, "a Prev, with the log's head", x, headOf(l))
			refused(t, "a Prev, with its own head", x, headOf(x))
			x = append(x[:at+1], mended(x, at+1)[at+1:]...)
			refused(t, "a Prev, with the chain mended", x, headOf(x))
		}
	}
}

// Each field of each record turned: the head tells; and hung on anew it is another head.
func TestVerifyOfEachFieldTurned(t *testing.T) {
	for name, change := range fields() {
		for at := range 6 {
			var l []api.Record
			for range 6 {
				l = append(l, nextSays(l, whole()))
			}
			x := copies(l)
			if at == 0 {
				// The first has no Prev that could be turned.
				if name == "Prev's first" || name == "Prev's last" {
					continue
				}
			}
			change(&x[at])
			if sameSays(x[at], l[at]) {
				continue
			}
			refused(t, name, x, headOf(l))
			if slices.Contains([]string{"Seq", "Seq's highest", "Prev's first", "Prev's last", "Prev is Sum"}, name) {
				continue
			}
			if at == 0 && name == "Sum is Prev" {
				x[0].Sum = nil
			}
			x = mended(x, 0)
			verified(t, name+", mended", x, headOf(x))
			refused(t, name+", mended, by the head that was", x, headOf(l))
			refused(t, name+", by the head of the mended", l, headOf(x))
		}
	}
}

func TestVerifyOfRecordsMoved(t *testing.T) {
	const n = 8
	l := grown(n, "a")
	head := headOf(l)
	for i := range n {
		x := slices.Delete(copies(l), i, i+1)
		refused(t, "one left out", x, head)
		if i < n-1 {
			refused(t, "one left out, by its own head", x, headOf(x))
		} else {
			verified(t, "the last left out, by its own head", x, headOf(x))
		}
		for j := range n + 1 {
			x = slices.Insert(copies(l), j, copied(l[i]))
			refused(t, "one twice", x, head)
			refused(t, "one twice, by its own head", x, headOf(x))
		}
		for j := range i {
			x = copies(l)
			x[i], x[j] = x[j], x[i]
			refused(t, "two exchanged", x, head)
			refused(t, "two exchanged, by their own head", x, headOf(x))
			// Their numbers stay at their places: what is exchanged is the rest.
			x[i].Seq, x[j].Seq = x[j].Seq, x[i].Seq
			x[i].Prev, x[j].Prev = x[j].Prev, x[i].Prev
			refused(t, "two exchanged but for their numbers", x, head)
		}
	}
	x := copies(l)
	slices.Reverse(x)
	refused(t, "turned round", x, head)
	refused(t, "turned round, by its own head", x, headOf(x))
	refused(t, "twice", append(copies(l), l...), head)
}

// Records from another log of the same length, at each place.
func TestVerifyOfTwoLogsMixed(t *testing.T) {
	a, b := grown(6, "a"), grown(6, "b")
	for cut := 1; cut < 6; cut++ {
		x := append(copies(a[:cut]), b[cut:]...)
		refused(t, "one log's end", x, headOf(b))
		refused(t, "one log's end", x, headOf(a))
		x = copies(a)
		x[cut] = copied(b[cut])
		refused(t, "one of another", x, headOf(x))
		refused(t, "one of another", x, headOf(a))
	}
}

func TestVerifyOfMany(t *testing.T) {
	var l []api.Record
	for i := range 5000 {
		r := with(func(r *api.Record) { r.Clock = uint64(i) })
		l = append(l, audit.Next(l, r))
	}
	head := audit.Digest(l[len(l)-1])
	if e := audit.Verify(l, head); e != api.OK {
		t.Fatalf("%d", e)
	}
	c := rand.New(rand.NewSource(1403))
	for range 20 {
		at := c.Intn(len(l))
		was := l[at].Version
		l[at].Version ^= 1 << c.Intn(64)
		if e := audit.Verify(l, head); e != api.ErrChain {
			t.Errorf("record %d turned: %d", at, e)
		}
		l[at].Version = was
	}
	if e := audit.Verify(l, head); e != api.OK {
		t.Errorf("as it was: %d", e)
	}
}

// A record that is far too great is refused without harm.
func TestVerifyOfVeryGreatRecords(t *testing.T) {
	for _, r := range []api.Record{{Seq: 1, Who: text(1<<22, 1)}, {Seq: 1, Sum: data(1<<22, 1)}, {Seq: 1, Prev: data(1<<22, 1)}} {
		if e := audit.Verify([]api.Record{r}, audit.Digest(r)); e != api.ErrChain {
			t.Errorf("%d", e)
		}
	}
	l := grown(1, "a")
	if e := audit.Verify(l, make([]byte, 1<<22)); e != api.ErrChain {
		t.Errorf("a great head: %d", e)
	}
}
