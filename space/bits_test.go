package space_test

import (
	"bytes"
	"fmt"
	"math"
	"math/rand"
	"strings"
	"testing"

	"stele/api"
	"stele/journal"
	"stele/space"
)

func TestSectors(t *testing.T) {
	if space.Map != chart || space.Root != root || space.Area != area || journal.First != chart {
		t.Errorf("Map %d, Root %d, Area %d", space.Map, space.Root, space.Area)
	}
	if api.Sector != size || api.MaxTx != most || api.MinDisk != small || api.MaxDisk != 8*size {
		t.Errorf("Sector %d, MaxTx %d, disks of %d to %d", api.Sector, api.MaxTx, api.MinDisk, api.MaxDisk)
	}
}

// digits: the bits of the bytes as signs, the one of 0 first.
func digits(b []byte) string {
	var s strings.Builder
	for _, x := range b {
		d := fmt.Sprintf("%08b", x)
		for k := range d {
			s.WriteByte(d[7-k])
		}
	}
	return s.String()
}

// P1101

func TestTakenEachBit(t *testing.T) {
	for x := range 256 {
		b := []byte{byte(x)}
		for i, d := range digits(b) {
			if got := space.Taken(b, i); got != (d == '1') {
				t.Errorf("Taken(%08b, %d): %v", x, i, got)
			}
		}
	}
}

func TestTakenOfOneBitAmongMany(t *testing.T) {
	for _, n := range []int{1, 2, 3, 8, size} {
		for set := range 8 * n {
			b := make([]byte, n)
			b[set/8] = 1 << (set % 8)
			c := bytes.Repeat([]byte{0xff}, n)
			c[set/8] -= 1 << (set % 8)
			for _, i := range []int{0, 1, set - 9, set - 8, set - 7, set - 1, set, set + 1, set + 7, set + 8, set + 9, 8*n - 1} {
				there := 0 <= i && i < 8*n
				if got := space.Taken(b, i); got != (i == set) {
					t.Fatalf("of %d bytes with the bit %d: Taken(%d): %v", n, set, i, got)
				}
				if got := space.Taken(c, i); got != (there && i != set) {
					t.Fatalf("of %d bytes without the bit %d: Taken(%d): %v", n, set, i, got)
				}
			}
		}
	}
}

func TestTakenBesideTheBytes(t *testing.T) {
	full := bytes.Repeat([]byte{0xff}, 2*size)
	for _, b := range [][]byte{nil, {}, full[:0], full[:1], full[:2], full[:7:7], full[:size], full} {
		bits := 8 * len(b)
		for _, i := range []int{-1, -2, -7, -8, -9, -63, -64, -bits, -bits - 1, math.MinInt, math.MinInt + 1, math.MinInt + 7, math.MinInt + 8, math.MinInt32,
			bits, bits + 1, bits + 7, bits + 8, bits + 64, 8 * size * 2, math.MaxInt32, math.MaxInt32 + 1, math.MaxInt - 7, math.MaxInt} {
			if space.Taken(b, i) && (i < 0 || i >= bits) {
				t.Errorf("of %d bytes: Taken(%d)", len(b), i)
			}
		}
		for i := range bits {
			if !space.Taken(b, i) {
				t.Fatalf("of %d bytes: Taken(%d) is false", len(b), i)
			}
		}
	}
}

// countSays: by signs.
func countSays(b []byte, n int) int {
	d := digits(b)
	return strings.Count(d[:min(max(n, 0), len(d))], "1")
}

func TestCountOfFewBytes(t *testing.T) {
	for x := range 1 << 16 {
		if testing.Short() && x%7 != 0 {
			continue
		}
		b := []byte{byte(x), byte(x >> 8)}
		for n := -2; n < 20; n++ {
			if got := space.Count(b, n); got != countSays(b, n) {
				t.Fatalf("Count(%x, %d): %d, not %d", b, n, got, countSays(b, n))
			}
		}
		for n := -1; n < 10 && x < 256; n++ {
			if got := space.Count(b[:1], n); got != countSays(b[:1], n) {
				t.Fatalf("Count(%x, %d): %d, not %d", b[:1], n, got, countSays(b[:1], n))
			}
		}
	}
}

func TestCountAtTheEdges(t *testing.T) {
	full := bytes.Repeat([]byte{0xff}, size+1)
	for _, b := range [][]byte{nil, {}, full[:0], full[:1], full[:2], full[:8], full[:9], full[:size], full, make([]byte, size)} {
		all := space.Count(b, 8*len(b))
		if len(b) > 0 && b[0] != 0 && all != 8*len(b) {
			t.Errorf("of %d bytes, all taken: %d", len(b), all)
		}
		for _, n := range []int{8 * len(b), 8*len(b) + 1, 8*len(b) + 7, 8*len(b) + 8, 8*len(b) + 9, api.MaxDisk + 8, math.MaxInt32, math.MaxInt32 + 1, math.MaxInt - 8, math.MaxInt - 1, math.MaxInt} {
			if got := space.Count(b, n); got != all {
				t.Errorf("of %d bytes: Count(%d): %d, not %d", len(b), n, got, all)
			}
		}
		for _, n := range []int{0, -1, -2, -7, -8, -9, -8 * len(b), -8*len(b) - 1, math.MinInt32, math.MinInt, math.MinInt + 1, math.MinInt + 8} {
			if got := space.Count(b, n); got != 0 {
				t.Errorf("of %d bytes: Count(%d): %d", len(b), n, got)
			}
		}
	}
	for n := range 8*size + 9 {
		if got := space.Count(full[:size], n); got != min(n, 8*size) {
			t.Fatalf("of full bytes: Count(%d): %d", n, got)
		}
	}
}

func TestCountIsOfTaken(t *testing.T) {
	r := rand.New(rand.NewSource(11))
	for range 300 {
		room := make([]byte, r.Intn(90)+1)
		r.Read(room)
		b := room[:r.Intn(len(room))]
		elder := string(room)
		sum := 0
		for n := range 8*len(room) + 3 {
			if got := space.Count(b, n); got != sum || got != countSays(b, n) {
				t.Fatalf("Count(%x, %d): %d, not %d", b, n, got, sum)
			}
			if space.Taken(b, n) {
				sum++
			}
		}
		if string(room) != elder {
			t.Fatal("the bytes were changed")
		}
	}
}

func FuzzBits(f *testing.F) {
	f.Add([]byte{}, 0)
	f.Add([]byte{0xff}, 8)
	f.Add([]byte{1, 2, 4}, 17)
	f.Add([]byte{0x80, 1}, -1)
	f.Add(bytes.Repeat([]byte{0x55}, size), math.MaxInt)
	f.Add([]byte{0xff, 0xff}, math.MinInt)
	f.Fuzz(func(t *testing.T, b []byte, n int) {
		elder := string(b)
		d := digits(b)
		if got, want := space.Taken(b, n), n >= 0 && n < len(d) && d[n] == '1'; got != want {
			t.Errorf("Taken(%x, %d): %v", b, n, got)
		}
		if got := space.Count(b, n); got != countSays(b, n) {
			t.Errorf("Count(%x, %d): %d, not %d", b, n, got, countSays(b, n))
		}
		if string(b) != elder {
			t.Error("the bytes were changed")
		}
	})
}
