package blob

import (
	"math"

	"stele/api"
	"stele/canon"
)

// Show: r as bytes, whether it is right or not.
func Show(r Ref) []byte {
	out := canon.Uint(nil, shown(r.Len))
	out = canon.Bytes(out, r.Sum)
	out = canon.List(out, len(r.Sectors))
	for _, i := range r.Sectors {
		// Not canon.Uint of out, which copies all of it for each of many.
		out = append(out, canon.Uint(nil, shown(i))...)
	}
	return out
}

// Read: the ref that the bytes show; ErrForm, if they show none that is right.
func Read(b []byte) (Ref, api.Errno) {
	p := canon.Read(b)
	r := Ref{Len: told(p.Uint()), Sum: p.Bytes()}
	for range p.List(Need(MaxLen)) {
		r.Sectors = append(r.Sectors, told(p.Uint()))
	}
	if p.Done() != api.OK || !r.right() {
		return Ref{}, api.ErrForm
	}
	return r, api.OK
}

// shown: the number that stands for n. There is none below 0.
func shown(n int) uint64 { return uint64(max(n, 0)) }

// told: n as an int. One that an int might not have stays one that is too
// great for all that a ref has.
func told(n uint64) int { return int(min(n, math.MaxInt32)) }
