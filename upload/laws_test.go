package upload_test

import (
	"bytes"
	"math/rand"
	"slices"
	"testing"

	"stele/api"
	"stele/upload"
)

// P1603

// counts: is u of the last data of each number, and nothing else?
func counts(t *testing.T, u api.Upload, last map[int][]byte) {
	t.Helper()
	want := gathered(u, last)
	var numbers []int
	var all []byte
	for _, p := range want.Parts {
		numbers = append(numbers, p.N)
		all = append(all, p.Data...)
	}
	got, e := upload.Join(u, numbers)
	if len(numbers) == 0 && e != api.ErrPart || len(numbers) > 0 && e != api.OK || !bytes.Equal(got, all) {
		t.Fatalf("%s: joined %d bytes, %d", short(show(u)), len(got), e)
	}
	if show(u) != show(want) || !upload.Right(u) || upload.Total(u) != len(all) {
		t.Fatalf("%s, not %s; right %t, in all %d", short(show(u)), short(show(want)), upload.Right(u), upload.Total(u))
	}
}

// All rows of a few puts, each with data of its own.
func TestRowsOfPuts(t *testing.T) {
	for _, l := range rows(1, maxParts, 6) {
		u, last := row(), map[int][]byte{}
		for i, n := range l {
			data := []byte("abcdefgh"[i : i+1+i%3])
			got, e := upload.Put(u, n, data)
			if e != api.OK {
				t.Fatalf("%v: %d", l, e)
			}
			u, last[n] = got, data
		}
		counts(t, u, last)
	}
}

// orders: all orders of what is in l.
func orders(l []int) [][]int {
	if len(l) == 0 {
		return [][]int{nil}
	}
	var all [][]int
	for i := range l {
		rest := slices.Concat(l[:i], l[i+1:])
		for _, o := range orders(rest) {
			all = append(all, append([]int{l[i]}, o...))
		}
	}
	return all
}

// The same parts come to the same upload in all their orders, whatever was put
// in their place ahead of them.
func TestAllOrders(t *testing.T) {
	data := map[int][]byte{1: []byte("one"), 2: nil, 3: body(maxBody, 3), 4: []byte("4")}
	want := gathered(row(), data)
	for _, before := range rows(1, maxParts, 2) {
		for _, order := range orders([]int{1, 2, 3, 4}) {
			u := row()
			for _, n := range before {
				u, _ = upload.Put(u, n, []byte("earlier"))
			}
			for _, n := range order {
				u, _ = upload.Put(u, n, data[n])
			}
			if show(u) != show(want) {
				t.Fatalf("%v, %v: %s", before, order, short(show(u)))
			}
			counts(t, u, data)
		}
	}
}

// Rows of chance, with numbers that come again, and with puts that are refused
// in between; each upload on the way stays what it was.
func TestRowsOfChance(t *testing.T) {
	c := rand.New(rand.NewSource(1603))
	refused, again := 0, 0
	for range 2000 {
		u, last := row(), map[int][]byte{}
		var way []api.Upload
		var shown []string
		for range c.Intn(20) {
			n, size := c.Intn(maxParts+3)-1, []int{0, 1, c.Intn(20), c.Intn(maxBody + 1), maxBody, maxBody + 1}[c.Intn(6)]
			data := body(size, c.Intn(200))
			got, e := upload.Put(u, n, data)
			if e != api.OK {
				refused++
				continue
			}
			if _, ok := last[n]; ok {
				again++
			}
			way, shown = append(way, u), append(shown, show(u))
			u, last[n] = got, bytes.Clone(data)
			blot(data)
		}
		counts(t, u, last)
		for i := range way {
			if show(way[i]) != shown[i] {
				t.Fatalf("%s is %s now", short(shown[i]), short(show(way[i])))
			}
		}
	}
	if refused < 1000 || again < 1000 {
		t.Errorf("%d refused, %d again", refused, again)
	}
}
