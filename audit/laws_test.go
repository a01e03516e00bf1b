package audit_test

import (
	"bytes"
	"fmt"
	"math/rand"
	"slices"
	"testing"

	"stele/api"
	"stele/audit"
)

// P1405

// Read of Show is a record that is right, and no two have one text.
func TestShowsOfRightRecordsAreTheirOwn(t *testing.T) {
	seen := map[string]string{}
	c := rand.New(rand.NewSource(1405))
	l := rightRecords()
	for range 5000 {
		l = append(l, anyRecord(c))
	}
	for _, r := range l {
		b := audit.Show(r)
		got, e := audit.Read(b)
		if !rightSays(r) {
			continue
		}
		if e != api.OK || !audit.Same(got, r) || !bytes.Equal(audit.Show(got), b) {
			t.Fatalf("%s: %s, %d", words(r), words(got), e)
		}
		if other, ok := seen[string(b)]; ok && other != words(r) {
			t.Fatalf("%s and %s have one text", other, words(r))
		}
		seen[string(b)] = words(r)
	}
}

// What Read tells is right: a log can be made of it.
func TestWhatIsReadIsRight(t *testing.T) {
	c := rand.New(rand.NewSource(5))
	told := 0
	for range 20000 {
		r, e := audit.Read(audit.Show(anyRecord(c)))
		if e != api.OK {
			continue
		}
		told++
		l := []api.Record{audit.Next(nil, r)}
		if !rightSays(r) || audit.Verify(l, audit.Digest(l[0])) != api.OK {
			t.Fatalf("%s", words(r))
		}
	}
	if told < 8000 {
		t.Errorf("only %d were read", told)
	}
}

// What Next makes of right records, one behind the other, is verified by the last one's Digest; each record is read as it was.
func TestLogsOfChance(t *testing.T) {
	c := rand.New(rand.NewSource(15))
	for range 200 {
		var l []api.Record
		for range c.Intn(30) {
			r := anyRecord(c)
			if rightSays(r) {
				l = append(l, audit.Next(l, r))
			}
			if e := audit.Verify(l, headOf(l)); e != api.OK {
				t.Fatalf("%d records: %d", len(l), e)
			}
		}
		var back []api.Record
		for i, r := range l {
			got, e := audit.Read(audit.Show(r))
			if e != api.OK || got.Seq != uint64(i+1) {
				t.Fatalf("record %d: %s, %d", i, words(got), e)
			}
			back = append(back, got)
		}
		if e := audit.Verify(back, headOf(l)); e != api.OK {
			t.Fatalf("read back: %d", e)
		}
		nothing(t, "a log and what was read of it", l, back)
	}
}

// A record that is not right never comes into a log that is verified, whatever comes behind it.
func TestLogsWithOneThatIsNotRight(t *testing.T) {
	for name, wrong := range wrongRecords() {
		for at := range 4 {
			l := grown(at, "a")
			r := audit.Next(l, wrong)
			if rightSays(r) {
				// Seq and Prev are made anew: with them it may be right.
				continue
			}
			l = append(l, r)
			for range 3 {
				if e := audit.Verify(l, audit.Digest(l[len(l)-1])); e != api.ErrChain {
					t.Errorf("%s at %d: %d", name, at, e)
				}
				l = append(l, audit.Next(l, whole()))
			}
		}
	}
}

// changed: a log made another by one change of chance.
func changed(c *rand.Rand, l []api.Record) []api.Record {
	l = copies(l)
	if len(l) == 0 {
		return grown(1, "x")
	}
	at := c.Intn(len(l))
	switch c.Intn(9) {
	case 0:
		return slices.Delete(l, at, at+1)
	case 1:
		return slices.Insert(l, at, copied(l[c.Intn(len(l))]))
	case 2:
		l[at], l[len(l)-1] = l[len(l)-1], l[at]
	case 3:
		l[at].Who += "x"
	case 4:
		l[at].Seq += uint64(c.Intn(3)) - 1
	case 5:
		l[at].Prev = sumOf(l[at].Prev)
	case 6:
		l[at].Clock ^= 1 << c.Intn(64)
		l = mended(l, at)
	case 7:
		l[at].Kind, l[at].Err = -1, -1
	case 8:
		return append(l, audit.Next(l, whole()))
	}
	return l
}

// Two lists that are verified by one head are the same, as nobody knows two texts of one SHA-256; if they were not, Collision would have to tell.
func TestOneHeadOneLog(t *testing.T) {
	c := rand.New(rand.NewSource(6))
	told := map[api.Errno]int{}
	for range 20000 {
		l := grown(c.Intn(8), fmt.Sprint(c.Intn(3)))
		x := l
		for range 1 + c.Intn(3) {
			x = changed(c, x)
		}
		head := headOf(l)
		e := verify(t, x, head)
		told[e]++
		if e == api.OK && !slices.EqualFunc(l, x, audit.Same) {
			a, b, is := audit.Collision(l, x)
			if !is || bytes.Equal(a, b) || !bytes.Equal(sumOf(a), sumOf(b)) {
				t.Fatalf("two logs by one head, and Collision: %x, %x, %t", a, b, is)
			}
		}
		if _, _, is := collision(t, l, x); is && e == api.OK {
			t.Fatal("a log that is verified has two texts of one digest")
		}
	}
	if told[api.OK] < 10 || told[api.ErrChain] < 10000 || len(told) != 2 {
		t.Errorf("%v", told)
	}
}

// Whatever is handed in, each call answers, twice the same.
func TestCallsOfChance(t *testing.T) {
	c := rand.New(rand.NewSource(7))
	for range 3000 {
		var a, b []api.Record
		for range c.Intn(5) {
			a = append(a, anyRecord(c))
		}
		b = append(b, a...)
		for range c.Intn(3) {
			b = append(b, anyRecord(c))
		}
		r := anyRecord(c)
		checked(t, r)
		next(t, a, r)
		verify(t, a, headOf(a))
		verify(t, b, headOf(a))
		collision(t, a, b)
		collision(t, b, a)
		if len(a) > 0 && audit.Same(a[0], r) != sameSays(a[0], r) {
			t.Fatalf("Same of %s and %s", words(a[0]), words(r))
		}
	}
}
