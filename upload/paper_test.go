package upload_test

import (
	"bytes"
	"fmt"
	"math"
	"slices"

	"stele/api"
)

// What the document's words say, on paper, and the edges that it names.

const (
	maxParts = 4
	maxBody  = 1536
)

// part, row: a part, and an upload of parts.
func part(n int, data string) api.Part { return api.Part{N: n, Data: []byte(data)} }

func row(parts ...api.Part) api.Upload {
	return api.Upload{Bucket: "b", Key: "k", Id: 7, Time: 50, Parts: parts}
}

// numbered: an upload of parts of these numbers, each with other data.
func numbered(numbers ...int) api.Upload {
	u := row()
	for i, n := range numbers {
		u.Parts = append(u.Parts, part(n, "abcdefgh"[i:i+1+i%3]))
	}
	return u
}

// body: so many bytes, those of one seed unlike those of another.
func body(size, seed int) []byte {
	b := make([]byte, size)
	for i := range b {
		b[i] = byte(i*7 + i/256 + seed*31)
	}
	return b
}

// show: an upload as text; data of none and nil look alike.
func show(u api.Upload) string {
	s := fmt.Sprintf("%q %q %d %d", u.Bucket, u.Key, u.Id, u.Time)
	for _, p := range u.Parts {
		s += fmt.Sprintf(" %d:%q", p.N, p.Data)
	}
	return s
}

func short(s string) string {
	if len(s) > 200 {
		return s[:200] + ".."
	}
	return s
}

func rightSays(u api.Upload) bool {
	for i, p := range u.Parts {
		if !slices.Contains([]int{1, 2, 3, 4}, p.N) || !(len(p.Data) < maxBody+1) {
			return false
		}
		for _, q := range u.Parts[:i] {
			if !(q.N < p.N) {
				return false
			}
		}
	}
	return true
}

// laid: the parts of u, each where its number says.
func laid(u api.Upload) map[int][]byte {
	m := map[int][]byte{}
	for _, p := range u.Parts {
		m[p.N] = append([]byte{}, p.Data...)
	}
	return m
}

// gathered: u with those of m as its parts.
func gathered(u api.Upload, m map[int][]byte) api.Upload {
	u.Parts = nil
	for n := 1; n <= maxParts; n++ {
		if data, ok := m[n]; ok {
			u.Parts = append(u.Parts, api.Part{N: n, Data: data})
		}
	}
	return u
}

func putSays(u api.Upload, n int, data []byte) (api.Upload, api.Errno) {
	switch {
	case n <= 0, n >= maxParts+1:
		return api.Upload{}, api.ErrPart
	case len(data) >= maxBody+1:
		return api.Upload{}, api.ErrBig
	}
	m := laid(u)
	m[n] = append([]byte{}, data...)
	return gathered(u, m), api.OK
}

func joinSays(u api.Upload, parts []int) ([]byte, api.Errno) {
	m := laid(u)
	var b []byte
	for i, n := range parts {
		data, ok := m[n]
		if !ok {
			return nil, api.ErrPart
		}
		for _, before := range parts[:i] {
			if before >= n {
				return nil, api.ErrPart
			}
		}
		b = append(b, data...)
	}
	if len(parts) == 0 {
		return nil, api.ErrPart
	}
	return b, api.OK
}

// someNumbers: those of parts, those next to them and at the ends, and what a
// narrower type would take for one of them.
func someNumbers() []int {
	l := []int{1, 2, 3, 4, 0, -1, -2, -4, 5, 6, math.MinInt, math.MinInt + 1, math.MinInt + 4, math.MaxInt, math.MaxInt - 1}
	for _, bits := range []int{8, 16, 32} {
		for n := range maxParts + 1 {
			l = append(l, n+1<<bits)
		}
	}
	return l
}

// someData: of none, of nil, of a few bytes, of as many as there may be.
func someData() [][]byte {
	return [][]byte{nil, {}, []byte("x"), []byte("xyz"), body(maxBody-1, 1), body(maxBody, 2)}
}

// tooMuch: data above what there may be.
func tooMuch() [][]byte {
	return [][]byte{body(maxBody+1, 3), body(maxBody+2, 4), body(2*maxBody, 5), body(1<<16, 6), body(1<<16+1, 7)}
}

// rightOnes: uploads with each choice of the numbers there are.
func rightOnes() []api.Upload {
	var l []api.Upload
	for choice := range 1 << maxParts {
		u := row()
		for n := 1; n <= maxParts; n++ {
			if choice>>(n-1)&1 == 1 {
				u.Parts = append(u.Parts, part(n, "abcd"[n-1:]))
			}
		}
		l = append(l, u)
	}
	return l
}

// rows: all lists of up to most numbers from low to high.
func rows(low, high, most int) [][]int {
	all := [][]int{nil}
	for from := 0; most > 0; most-- {
		to := len(all)
		for _, l := range all[from:to] {
			for n := low; n <= high; n++ {
				all = append(all, append(slices.Clone(l), n))
			}
		}
		from = to
	}
	return all
}

// empty: is it the upload of zero values alone?
func empty(u api.Upload) bool {
	return u.Bucket == "" && u.Key == "" && u.Id == 0 && u.Time == 0 && len(u.Parts) == 0
}

// roomy: an upload like u, whose lists have spare room that is written full.
func roomy(u api.Upload) api.Upload {
	parts := make([]api.Part, 0, len(u.Parts)+3)
	for _, p := range u.Parts {
		data := append(bytes.Clone(p.Data), "spare"...)
		parts = append(parts, api.Part{N: p.N, Data: data[:len(p.Data)]})
	}
	for i := len(parts); i < cap(parts); i++ {
		parts[:cap(parts)][i] = part(90+i, "spare")
	}
	u.Parts = parts
	return u
}

// whole: an upload with all the spare room of its lists, as text.
func whole(u api.Upload) string {
	parts := u.Parts[:cap(u.Parts)]
	u.Parts = nil
	for _, p := range parts {
		u.Parts = append(u.Parts, api.Part{N: p.N, Data: p.Data[:cap(p.Data)]})
	}
	return show(u)
}

// scribble: over all that an upload's lists reach, spare room too.
func scribble(u api.Upload) {
	for _, p := range u.Parts[:cap(u.Parts)] {
		blot(p.Data)
	}
	for i := range u.Parts[:cap(u.Parts)] {
		u.Parts[:cap(u.Parts)][i] = part(-9, "blot")
	}
}

func blot(b []byte) {
	b = b[:cap(b)]
	for i := range b {
		b[i] = '#'
	}
}
