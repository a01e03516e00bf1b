package audit

import (
	"iter"

	"stele/api"
	"stele/digest"
)

// Collision: two texts of one Digest, if a and b, gone through from behind,
// come to two records that are not the same but have one. It ends at the
// first two that are not the same: with another Digest, nothing ties those
// ahead of them to one head any more.
func Collision(a, b []api.Record) (x, y []byte, is bool) {
	for r, s := range fromBehind(a, b) {
		if Same(r, s) {
			continue
		}
		x, y = Show(r), Show(s)
		if digest.Same(digest.Sha256(x), digest.Sha256(y)) {
			return x, y, true
		}
		return nil, nil, false
	}
	return nil, nil, false
}

// Same: are they alike in all fields?
func Same(a, b api.Record) bool {
	return a.Seq == b.Seq && a.Clock == b.Clock &&
		a.Who == b.Who && a.Kind == b.Kind &&
		a.Bucket == b.Bucket && a.Key == b.Key &&
		a.Version == b.Version && a.Err == b.Err &&
		digest.Same(a.Sum, b.Sum) && digest.Same(a.Prev, b.Prev)
}

// fromBehind: the last of both, the last but one of both, and so on, as long
// as both have one.
func fromBehind(a, b []api.Record) iter.Seq2[api.Record, api.Record] {
	return func(yield func(r, s api.Record) bool) {
		for k := range min(len(a), len(b)) {
			if !yield(a[len(a)-1-k], b[len(b)-1-k]) {
				return
			}
		}
	}
}
