package upload_test

import (
	"testing"

	"stele/api"
	"stele/upload"
)

// P1601

func TestRightByHand(t *testing.T) {
	big, much := string(body(maxBody, 1)), string(body(maxBody+1, 1))
	for _, c := range []struct {
		u    api.Upload
		want bool
	}{
		{api.Upload{}, true}, {row(), true}, {row([]api.Part{}...), true},
		{row(part(1, "a")), true}, {row(part(2, "a")), true}, {row(part(4, "a")), true},
		{row(part(1, "a"), part(2, "b")), true}, {row(part(1, "a"), part(4, "b")), true}, {row(part(3, "a"), part(4, "a")), true},
		{row(part(1, "a"), part(2, "b"), part(3, "c"), part(4, "d")), true},
		// parts without data
		{row(part(1, "")), true}, {row(api.Part{N: 1}, api.Part{N: 2}), true},
		// that fall
		{row(part(2, "a"), part(1, "b")), false}, {row(part(1, "a"), part(3, "b"), part(2, "c")), false}, {row(part(4, ""), part(3, ""), part(2, ""), part(1, "")), false},
		{row(part(1, "a"), part(2, "a"), part(4, "a"), part(3, "a")), false},
		// one twice
		{row(part(1, "a"), part(1, "a")), false}, {row(part(1, "a"), part(2, "b"), part(2, "c")), false}, {row(part(3, ""), part(3, "")), false}, {row(part(1, "a"), part(2, "b"), part(1, "a")), false},
		{row(part(1, ""), part(2, ""), part(3, ""), part(4, ""), part(4, "")), false},
		// below 1, above MaxParts
		{row(part(0, "a")), false}, {row(part(-1, "a")), false}, {row(api.Part{}), false}, {row(part(0, "a"), part(1, "b")), false}, {row(part(-1, "a"), part(1, "b"), part(2, "c")), false},
		{row(part(5, "a")), false}, {row(part(1, "a"), part(5, "b")), false}, {row(part(1, ""), part(2, ""), part(3, ""), part(4, ""), part(5, "")), false},
		// data
		{row(part(1, big)), true}, {row(part(1, big), part(2, big), part(3, big), part(4, big)), true},
		{row(part(1, much)), false}, {row(part(1, "a"), part(2, much)), false}, {row(part(1, much), part(2, "a")), false}, {row(part(1, big), part(2, big), part(3, much), part(4, big)), false},
	} {
		if got := upload.Right(c.u); got != c.want {
			t.Errorf("Right of %s: %t", short(show(c.u)), got)
		}
	}
}

func TestRightOverTheEdges(t *testing.T) {
	right := 0
	for _, l := range rows(-1, 6, 5) {
		u := numbered(l...)
		got := upload.Right(u)
		if got != rightSays(u) {
			t.Fatalf("Right of %v: %t", l, got)
		}
		if got {
			right++
		}
	}
	if right != 16 {
		t.Errorf("%d of them are right", right)
	}
	for _, a := range someNumbers() {
		for _, b := range someNumbers() {
			if u := numbered(a, b); upload.Right(u) != rightSays(u) || upload.Right(numbered(a)) != rightSays(numbered(a)) {
				t.Errorf("Right of %d, %d: %t", a, b, upload.Right(u))
			}
		}
	}
}

// Each part's data is looked at, whichever it is.
func TestRightOfSizes(t *testing.T) {
	for _, u := range rightOnes() {
		for i := range u.Parts {
			v := row(append([]api.Part{}, u.Parts...)...)
			for _, data := range append(someData(), tooMuch()...) {
				v.Parts[i].Data = data
				if got := upload.Right(v); got != (len(data) <= maxBody) {
					t.Errorf("Right with %d bytes in part %d: %t", len(data), v.Parts[i].N, got)
				}
			}
		}
	}
}

// What else an upload has does not matter, its spare room neither.
func TestRightOfTheRest(t *testing.T) {
	for _, l := range rows(0, 5, 3) {
		u := numbered(l...)
		bare := api.Upload{Parts: u.Parts}
		full := roomy(u)
		before := whole(full)
		if upload.Right(bare) != rightSays(u) || upload.Right(full) != rightSays(u) {
			t.Errorf("Right of %v: %t, %t", l, upload.Right(bare), upload.Right(full))
		}
		if after := whole(full); after != before {
			t.Fatalf("changed to %s", short(after))
		}
	}
}

func TestPutByHand(t *testing.T) {
	two := row(part(2, "b"))
	four := row(part(1, "a"), part(2, "b"), part(3, "c"), part(4, "d"))
	for _, c := range []struct {
		u    api.Upload
		n    int
		data string
		want api.Upload
	}{
		{row(), 1, "a", row(part(1, "a"))}, {row(), 4, "a", row(part(4, "a"))}, {row(), 2, "", row(part(2, ""))},
		{api.Upload{}, 3, "a", api.Upload{Parts: []api.Part{part(3, "a")}}},
		// ahead of, behind, between
		{two, 1, "a", row(part(1, "a"), part(2, "b"))}, {two, 3, "a", row(part(2, "b"), part(3, "a"))}, {two, 4, "", row(part(2, "b"), part(4, ""))},
		{row(part(1, "a"), part(4, "d")), 2, "b", row(part(1, "a"), part(2, "b"), part(4, "d"))},
		{row(part(1, "a"), part(2, "b"), part(4, "d")), 3, "c", four}, {row(part(2, "b"), part(3, "c"), part(4, "d")), 1, "a", four}, {row(part(1, "a"), part(2, "b"), part(3, "c")), 4, "d", four},
		// in the place of one, with other data, with none, with the same
		{two, 2, "new", row(part(2, "new"))}, {two, 2, "", row(part(2, ""))}, {two, 2, "b", two}, {row(part(2, "")), 2, "b", two},
		{four, 1, "x", row(part(1, "x"), part(2, "b"), part(3, "c"), part(4, "d"))}, {four, 3, "xyz", row(part(1, "a"), part(2, "b"), part(3, "xyz"), part(4, "d"))},
		{four, 4, "", row(part(1, "a"), part(2, "b"), part(3, "c"), part(4, ""))}, {four, 2, "b", four},
	} {
		got, e := upload.Put(c.u, c.n, []byte(c.data))
		if e != api.OK || show(got) != show(c.want) {
			t.Errorf("Put %d, %q to %s: %s, %d", c.n, c.data, show(c.u), show(got), e)
		}
	}
	if got, e := upload.Put(four, 2, nil); e != api.OK || show(got) != show(row(part(1, "a"), part(2, ""), part(3, "c"), part(4, "d"))) {
		t.Errorf("Put of nil: %s, %d", show(got), e)
	}
}

// A wrong number is told ahead of too much data; beside an error there is no
// upload.
func TestPutRefused(t *testing.T) {
	for _, u := range append(rightOnes(), api.Upload{}) {
		before := show(u)
		for _, n := range someNumbers() {
			for _, data := range append(someData(), tooMuch()...) {
				want := api.OK
				if len(data) > maxBody {
					want = api.ErrBig
				}
				if n < 1 || n > maxParts {
					want = api.ErrPart
				}
				got, e := upload.Put(u, n, data)
				if e != want || e != api.OK && !empty(got) {
					t.Errorf("Put %d, %d bytes: %s, %d, not %d", n, len(data), short(show(got)), e, want)
				}
			}
		}
		if show(u) != before {
			t.Errorf("%s is %s now", before, short(show(u)))
		}
	}
}

func TestPutOverTheEdges(t *testing.T) {
	for _, u := range rightOnes() {
		for n := 1; n <= maxParts; n++ {
			for _, data := range someData() {
				got, e := upload.Put(u, n, data)
				want, _ := putSays(u, n, data)
				if e != api.OK || show(got) != show(want) || !upload.Right(got) {
					t.Errorf("Put %d, %d bytes to %s: %s, %d", n, len(data), show(u), short(show(got)), e)
				}
			}
		}
	}
}

// All else of the upload stays as it is.
func TestPutKeepsTheRest(t *testing.T) {
	for i := range 16 {
		var u api.Upload
		for bit, set := range []func(){func() { u.Bucket = "buck" }, func() { u.Key = "a/key" }, func() { u.Id = 1<<64 - 1 }, func() { u.Time = 1 << 63 }} {
			if i>>bit&1 == 1 {
				set()
			}
		}
		got, e := upload.Put(u, 1, []byte("a"))
		again, f := upload.Put(got, 1, []byte("b"))
		if e != api.OK || f != api.OK || got.Bucket != u.Bucket || got.Key != u.Key || got.Id != u.Id || got.Time != u.Time {
			t.Errorf("%s is %s", show(u), show(got))
		}
		again.Parts, u.Parts = nil, nil
		if show(again) != show(u) {
			t.Errorf("%s is %s, put twice", show(u), show(again))
		}
	}
}

// What is handed in stays as it is, spare room too, and what comes of it is
// new memory: whoever writes into one does not change the other.
func TestPutIsNewMemory(t *testing.T) {
	for _, first := range rightOnes() {
		for n := 1; n <= maxParts; n++ {
			u := roomy(first)
			room := []byte("dataspare")
			data := room[:4]
			before := whole(u)
			got, _ := upload.Put(u, n, data)
			want := show(got)
			if whole(u) != before || string(room) != "dataspare" {
				t.Fatalf("Put %d changed %s, %q", n, short(whole(u)), room)
			}
			scribble(got)
			if whole(u) != before || string(room) != "dataspare" {
				t.Fatalf("the answer of Put %d shares with %s, %q", n, short(whole(u)), room)
			}
			got, _ = upload.Put(u, n, data)
			scribble(u)
			blot(room)
			if show(got) != want {
				t.Fatalf("Put %d keeps what it was given: %s", n, show(got))
			}
		}
	}
}

// Data that is handed in for several parts is apart in the answer.
func TestPutPartsShareNothing(t *testing.T) {
	data := []byte("same")
	u := row(api.Part{N: 1, Data: data}, api.Part{N: 2, Data: data[:2]}, api.Part{N: 4, Data: data[1:]})
	for n := 1; n <= maxParts; n++ {
		want, _ := upload.Put(u, n, data)
		for i := range want.Parts {
			got, _ := upload.Put(u, n, data)
			blot(got.Parts[i].Data)
			for j := range got.Parts {
				if i != j && string(got.Parts[j].Data) != string(want.Parts[j].Data) {
					t.Errorf("Put %d: parts %d and %d share", n, got.Parts[i].N, got.Parts[j].N)
				}
			}
		}
	}
	if string(data) != "same" {
		t.Errorf("the data is %q now", data)
	}
}

// Of uploads that are not right nothing is promised, but that the calls end,
// and that they leave them as they are.
func TestEndsOfWhatIsNotRight(t *testing.T) {
	for _, l := range rows(-1, 6, 4) {
		u := roomy(numbered(l...))
		before := whole(u)
		for n := 0; n <= maxParts+1; n++ {
			if _, e := upload.Put(u, n, []byte("x")); (e == api.ErrPart) != (n < 1 || n > maxParts) {
				t.Fatalf("Put %d to %v: %d", n, l, e)
			}
			upload.Join(u, []int{n})
			upload.Join(u, []int{n, n + 1})
		}
		upload.Join(u, l)
		if after := whole(u); after != before {
			t.Fatalf("%v is changed to %s", l, short(after))
		}
	}
}
