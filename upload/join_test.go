package upload_test

import (
	"bytes"
	"math"
	"slices"
	"testing"

	"stele/api"
	"stele/upload"
)

// P1602

// The example of the chapter.
func TestJoinByExample(t *testing.T) {
	var u api.Upload
	u, _ = upload.Put(u, 2, []byte("b"))
	u, _ = upload.Put(u, 1, []byte("a"))
	if got, e := upload.Join(u, []int{1, 2}); string(got) != "ab" || e != api.OK {
		t.Errorf("Join of 1, 2: %q, %d", got, e)
	}
}

func TestJoinByHand(t *testing.T) {
	four := row(part(1, "one"), part(2, "two"), part(3, "three"), part(4, "four"))
	gaps := row(part(1, "a"), part(3, "c"))
	inner := row(part(2, "bb"), part(3, ""))
	const ok, wrong = api.OK, api.ErrPart
	for _, c := range []struct {
		u     api.Upload
		parts []int
		want  string
		e     api.Errno
	}{
		// all of them, some, one
		{four, []int{1, 2, 3, 4}, "onetwothreefour", ok}, {four, []int{1, 2, 3}, "onetwothree", ok}, {four, []int{2, 4}, "twofour", ok}, {four, []int{1, 4}, "onefour", ok},
		{four, []int{1}, "one", ok}, {four, []int{2}, "two", ok}, {four, []int{3}, "three", ok}, {four, []int{4}, "four", ok},
		{gaps, []int{1, 3}, "ac", ok}, {gaps, []int{1}, "a", ok}, {gaps, []int{3}, "c", ok},
		{inner, []int{2, 3}, "bb", ok}, {inner, []int{3}, "", ok}, {row(part(1, ""), part(2, "")), []int{1, 2}, "", ok}, {row(api.Part{N: 1}), []int{1}, "", ok},
		// none
		{four, nil, "", wrong}, {four, []int{}, "", wrong}, {row(), nil, "", wrong}, {api.Upload{}, []int{}, "", wrong},
		// that do not rise: one twice, ones that fall
		{four, []int{1, 1}, "", wrong}, {four, []int{4, 4}, "", wrong}, {four, []int{1, 2, 2, 3}, "", wrong}, {four, []int{1, 2, 3, 4, 4}, "", wrong}, {four, []int{1, 2, 3, 4, 1}, "", wrong},
		{four, []int{2, 1}, "", wrong}, {four, []int{4, 3, 2, 1}, "", wrong}, {four, []int{1, 3, 2}, "", wrong}, {four, []int{1, 2, 4, 3}, "", wrong}, {four, []int{3, 1, 2}, "", wrong}, {four, []int{1, 3, 2, 4}, "", wrong},
		// ones that there are not: ahead of the first, behind the last, between
		{four, []int{0}, "", wrong}, {four, []int{5}, "", wrong}, {four, []int{-1}, "", wrong}, {four, []int{0, 1}, "", wrong}, {four, []int{1, 2, 3, 4, 5}, "", wrong}, {four, []int{-1, 1, 2}, "", wrong},
		{gaps, []int{2}, "", wrong}, {gaps, []int{1, 2}, "", wrong}, {gaps, []int{1, 2, 3}, "", wrong}, {gaps, []int{2, 3}, "", wrong}, {gaps, []int{4}, "", wrong}, {gaps, []int{1, 3, 4}, "", wrong}, {gaps, []int{0, 1, 3}, "", wrong},
		{inner, []int{1}, "", wrong}, {inner, []int{1, 2, 3}, "", wrong}, {inner, []int{4}, "", wrong}, {inner, []int{2, 3, 4}, "", wrong},
		{row(), []int{1}, "", wrong}, {row(), []int{0}, "", wrong}, {api.Upload{}, []int{1, 2, 3, 4}, "", wrong},
		{four, []int{math.MinInt}, "", wrong}, {four, []int{math.MaxInt}, "", wrong}, {four, []int{1, math.MaxInt}, "", wrong}, {four, []int{math.MinInt, 1}, "", wrong},
	} {
		got, e := upload.Join(c.u, c.parts)
		if string(got) != c.want || e != c.e {
			t.Errorf("Join of %v of %s: %q, %d", c.parts, show(c.u), got, e)
		}
	}
}

func TestJoinOverTheEdges(t *testing.T) {
	lists := rows(0, 5, 5)
	for _, u := range rightOnes() {
		before, joined := show(u), 0
		for _, parts := range lists {
			asked := slices.Clone(parts)
			got, e := upload.Join(u, parts)
			want, f := joinSays(u, parts)
			if e != f || !bytes.Equal(got, want) || !slices.Equal(parts, asked) {
				t.Fatalf("Join of %v of %s: %q, %d, not %q, %d", asked, before, got, e, want, f)
			}
			if e == api.OK {
				joined++
			}
		}
		// Each choice of its parts, but that of none.
		if joined != 1<<len(u.Parts)-1 || show(u) != before {
			t.Errorf("%s: %d lists were joined; %s now", before, joined, show(u))
		}
	}
}

// Numbers that a narrower type would take for those of parts.
func TestJoinOfWideNumbers(t *testing.T) {
	for _, u := range rightOnes() {
		for _, a := range someNumbers() {
			for _, b := range someNumbers() {
				for _, parts := range [][]int{{a}, {a, b}, {1, a, b}} {
					got, e := upload.Join(u, parts)
					if want, f := joinSays(u, parts); e != f || !bytes.Equal(got, want) {
						t.Fatalf("Join of %v of %s: %q, %d", parts, show(u), got, e)
					}
				}
			}
		}
	}
}

// As many bytes as there may be, in order.
func TestJoinOfWholeParts(t *testing.T) {
	var u api.Upload
	var want []byte
	for n := 1; n <= maxParts; n++ {
		u.Parts = append(u.Parts, api.Part{N: n, Data: body(maxBody, n)})
		want = append(want, u.Parts[n-1].Data...)
		if got := upload.Total(u); got != n*maxBody {
			t.Errorf("Total of %d parts: %d", n, got)
		}
	}
	if got, e := upload.Join(u, []int{1, 2, 3, 4}); e != api.OK || !bytes.Equal(got, want) {
		t.Errorf("Join of four parts: %d bytes, %d", len(got), e)
	}
	if got, e := upload.Join(u, []int{2, 3}); e != api.OK || !bytes.Equal(got, want[maxBody:3*maxBody]) {
		t.Errorf("Join of two parts: %d bytes, %d", len(got), e)
	}
	if got, e := upload.Join(u, []int{1, 2, 3, 4, 5}); e != api.ErrPart || len(got) != 0 {
		t.Errorf("Join of five parts: %d bytes, %d", len(got), e)
	}
}

// What comes is new memory, also of one part, and what is handed in stays as
// it is, spare room too.
func TestJoinIsNewMemory(t *testing.T) {
	for _, first := range rightOnes() {
		for _, numbers := range rows(1, 4, 3) {
			u := roomy(first)
			before := whole(u)
			room := append(slices.Clone(numbers), 4, 5, 6)
			got, e := upload.Join(u, room[:len(numbers)])
			if e != api.OK {
				continue
			}
			want := string(got)
			blot(got)
			if whole(u) != before || !slices.Equal(room[len(numbers):], []int{4, 5, 6}) {
				t.Fatalf("Join of %v shares with %s, %v", numbers, short(whole(u)), room)
			}
			got, _ = upload.Join(u, numbers)
			scribble(u)
			if string(got) != want {
				t.Fatalf("Join of %v keeps what it was given: %q", numbers, got)
			}
		}
	}
}

func TestTotalByHand(t *testing.T) {
	for _, c := range []struct {
		u    api.Upload
		want int
	}{
		{api.Upload{}, 0}, {row(), 0}, {row(part(1, "")), 0}, {row(api.Part{N: 4}), 0},
		{row(part(1, "a")), 1}, {row(part(4, "abc")), 3}, {row(part(1, "a"), part(2, "bc")), 3}, {row(part(1, "a"), part(2, ""), part(4, "bc")), 3},
		{row(part(1, "a"), part(2, "bc"), part(3, "def"), part(4, "ghij")), 10},
		{row(part(2, string(body(maxBody, 1)))), 1536}, {row(part(1, "a"), part(2, string(body(maxBody, 1)))), 1537},
		{row(part(1, string(body(255, 1))), part(2, string(body(1, 1)))), 256},
		// all parts count, whatever their numbers are
		{row(part(2, "ab"), part(1, "c")), 3}, {row(part(0, "ab"), part(9, "c"), part(9, "d")), 4}, {row(part(1, string(body(1<<16+1, 1)))), 1<<16 + 1}, {numbered(1, 2, 3, 4, 5, 6), 12},
	} {
		before := show(c.u)
		if got := upload.Total(c.u); got != c.want || show(c.u) != before {
			t.Errorf("Total of %s: %d, not %d", short(before), got, c.want)
		}
	}
}

// The spare room of data and of parts is no part of them.
func TestTotalOfTheRest(t *testing.T) {
	for _, u := range rightOnes() {
		want := 0
		for _, p := range u.Parts {
			want += len(p.Data)
		}
		if got, bare := upload.Total(roomy(u)), upload.Total(api.Upload{Parts: u.Parts}); got != want || bare != want {
			t.Errorf("Total of %s: %d, %d, not %d", show(u), got, bare, want)
		}
	}
}
