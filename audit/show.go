package audit

import (
	"math"

	"stele/api"
	"stele/canon"
)

const (
	sumSize  = 32   // bytes of a SHA-256
	greatErr = 9999 // the greatest error of a record
)

// Show: r as bytes, whether it is right or not.
func Show(r api.Record) []byte {
	out := canon.Uint(nil, r.Seq)
	out = canon.Uint(out, r.Clock)
	out = canon.Text(out, r.Who)
	out = canon.Uint(out, shown(r.Kind))
	out = canon.Text(out, r.Bucket)
	out = canon.Text(out, r.Key)
	out = canon.Uint(out, r.Version)
	out = canon.Uint(out, shown(int(r.Err)))
	out = canon.Bytes(out, r.Sum)
	return canon.Bytes(out, r.Prev)
}

// Read: the record that the bytes show; ErrForm, if they show none that is
// right.
func Read(b []byte) (api.Record, api.Errno) {
	p := canon.Read(b)
	r := api.Record{
		Seq:     p.Uint(),
		Clock:   p.Uint(),
		Who:     p.Text(),
		Kind:    told(p.Uint()),
		Bucket:  p.Text(),
		Key:     p.Text(),
		Version: p.Uint(),
		Err:     api.Errno(told(p.Uint())),
		Sum:     p.Bytes(),
		Prev:    p.Bytes(),
	}
	if p.Done() != api.OK || !right(r) {
		return api.Record{}, api.ErrForm
	}
	return r, api.OK
}

// right: can r be a record of a log?
func right(r api.Record) bool {
	return r.Seq > 0 &&
		r.Kind >= 0 && r.Kind <= api.OpAudit &&
		r.Err >= api.OK && r.Err <= greatErr &&
		len(r.Who) <= api.MaxUser && len(r.Bucket) <= api.MaxBucket && len(r.Key) <= api.MaxKey &&
		(len(r.Sum) == 0 || len(r.Sum) == sumSize) &&
		(len(r.Prev) == 0 || len(r.Prev) == sumSize) &&
		(len(r.Prev) == 0) == (r.Seq == 1)
}

// shown: the number that stands for n. There is none below 0.
func shown(n int) uint64 { return uint64(max(n, 0)) }

// told: n as an int. One that an int might not have stays one that is too
// great for all that a record has.
func told(n uint64) int { return int(min(n, math.MaxInt32)) }
