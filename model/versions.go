package model

import (
	"bytes"
	"cmp"
	"math"
	"slices"
	"strings"

	"stele/api"
	"stele/expiry"
	"stele/lock"
)

func (t *step) put() {
	b := t.bucket()
	need(Key(t.Key), api.ErrName)
	need(len(t.Data) <= api.MaxBody, api.ErrBig)
	t.add(*b, bytes.Clone(t.Data))
}

// add: a new version of data comes to b, kept as the operation asks, or as b
// does.
func (t *step) add(b api.Bucket, data []byte) {
	need(b.Lock || t.R.Mode == 0 && !t.Hold, api.ErrNoLock)
	need(lock.Right(t.R, t.state.Clock), api.ErrState)
	v := api.Version{Data: data, R: t.R, Hold: t.Hold}
	if v.R.Mode == 0 {
		v.R = lock.Default(b, t.state.Clock)
	}
	t.come(b, v)
}

// come: v comes as the latest version of the key.
func (t *step) come(b api.Bucket, v api.Version) {
	v.Bucket, v.Key = t.Bucket, t.Key
	v.Id, v.Order, v.Time = t.id(b), t.order(), t.state.Clock
	t.state.Versions = append(t.state.Versions, v)
	t.answer.Version = v.Id
}

// id: that of a version to come. Without versioning it stands in the place of
// the one that has no id. ErrDraw: the draw is none, or used.
func (t *step) id(b api.Bucket) uint64 {
	if b.Versioning != api.Enabled {
		t.dropNamed(0)
		return 0
	}
	need(t.Draw != 0 && t.place(t.Draw) < 0, api.ErrDraw)
	return t.Draw
}

// order: that of a version to come.
func (t *step) order() uint64 {
	order := t.state.Next
	// No number is above the greatest one, and with none below Next the state
	// would not be right any more.
	need(order < math.MaxUint64, api.ErrState)
	t.state.Next = order + 1
	return order
}

// isNamed: is v the version of the operation's key with this id?
func (t *step) isNamed(v api.Version, id uint64) bool {
	return v.Id == id && v.Bucket == t.Bucket && v.Key == t.Key
}

// place: where the version of the key with this id stands; -1, if there is
// none.
func (t *step) place(id uint64) int {
	return slices.IndexFunc(t.state.Versions, func(v api.Version) bool { return t.isNamed(v, id) })
}

// dropNamed: the version of the key with this id goes, if there is one.
func (t *step) dropNamed(id uint64) {
	t.drop(func(v api.Version) bool { return t.isNamed(v, id) })
}

// named: the version that the operation names. ErrVersion: there is none.
func (t *step) named() *api.Version {
	at := t.place(t.Version)
	need(at >= 0, api.ErrVersion)
	return &t.state.Versions[at]
}

// version: the one that the operation names, or else the latest; markers are
// none.
func (t *step) version() *api.Version {
	if t.Has {
		v := t.named()
		need(!v.Marker, api.ErrMarker)
		return v
	}
	at := expiry.Latest(t.state.Versions, t.Bucket, t.Key)
	need(at >= 0 && !t.state.Versions[at].Marker, api.ErrKey)
	return &t.state.Versions[at]
}

func (t *step) get() {
	t.bucket()
	v := t.version()
	t.answer = api.Result{Version: v.Id, Data: bytes.Clone(v.Data), R: v.R, Hold: v.Hold}
}

func (t *step) delete() {
	b := t.bucket()
	need(Key(t.Key), api.ErrName)
	switch {
	case t.Has:
		t.deleteNamed(*b)
	case b.Versioning == api.Off:
		t.dropNamed(0)
	default:
		t.come(*b, api.Version{Marker: true})
		t.answer.Marker = true
	}
}

// deleteNamed: the version that the operation names goes, if nothing keeps it.
func (t *step) deleteNamed(b api.Bucket) {
	v := *t.named()
	need(t.Code || !b.Mfa, api.ErrMfa)
	stays := lock.MayDelete(v, t.state.Clock, t.Bypass)
	need(stays == api.OK, stays)
	t.dropNamed(v.Id)
	t.answer.Version, t.answer.Marker = v.Id, v.Marker
}

func (t *step) retain() {
	need(t.bucket().Lock, api.ErrNoLock)
	v := t.version()
	stays := lock.MaySet(v.R, t.R, t.state.Clock, t.Bypass)
	need(stays == api.OK, stays)
	v.R = t.R
	t.answer.Version = v.Id
}

func (t *step) hold() {
	need(t.bucket().Lock, api.ErrNoLock)
	v := t.version()
	v.Hold = t.Hold
	t.answer.Version = v.Id
}

func (t *step) list() {
	t.bucket()
	need(1 <= t.N && t.N <= api.MaxList, api.ErrArg)
	l := t.behindMarker()
	n := wholeKeys(l, t.N)
	t.answer.Versions, t.answer.More = l[:n], n < len(l)
}

// behindMarker: the bucket's versions of keys above the operation's marker, by
// key, and the latest first.
func (t *step) behindMarker() []api.Version {
	var l []api.Version
	for _, v := range t.state.Versions {
		if v.Bucket == t.Bucket && v.Key > t.Marker {
			l = append(l, bare(v))
		}
	}
	slices.SortFunc(l, func(a, b api.Version) int {
		return cmp.Or(strings.Compare(a.Key, b.Key), cmp.Compare(b.Order, a.Order))
	})
	return l
}

// wholeKeys: how many of l the first whole keys have, at most so many; the
// first key comes at any rate, that a listing may go on.
func wholeKeys(l []api.Version, most int) int {
	n := 0
	for i := range l {
		last := i+1 == len(l) || l[i+1].Key != l[i].Key
		if last && (n == 0 || i < most) {
			n = i + 1
		}
	}
	return n
}

func (t *step) sweep() {
	for _, b := range t.state.Buckets {
		due := expiry.Due(b, t.state.Versions, t.state.Clock)
		gone := t.drop(func(v api.Version) bool {
			// They rise, since the versions do.
			_, goes := slices.BinarySearch(due, v.Order)
			return goes
		})
		t.answer.Versions = append(t.answer.Versions, gone...)
	}
}
