package model

import (
	"slices"

	"stele/api"
)

func (t *step) makeBucket() {
	need(Name(t.Bucket), api.ErrName)
	at, there := find(t.state.Buckets, t.Bucket)
	need(!there, api.ErrTwice)
	need(len(t.state.Buckets) < api.MaxBuckets, api.ErrBig)
	b := api.Bucket{Name: t.Bucket, Lock: t.Lock}
	if b.Lock {
		// What is locked must stay behind what is put over it.
		b.Versioning = api.Enabled
	}
	t.state.Buckets = slices.Insert(t.state.Buckets, at, b)
}

func (t *step) dropBucket() {
	b := t.bucket()
	version := slices.ContainsFunc(t.state.Versions, func(v api.Version) bool { return v.Bucket == b.Name })
	upload := slices.ContainsFunc(t.state.Uploads, func(u api.Upload) bool { return u.Bucket == b.Name })
	need(!version && !upload, api.ErrNotEmpty)
	t.state.Buckets = slices.DeleteFunc(t.state.Buckets, func(b api.Bucket) bool { return b.Name == t.Bucket })
}

func (t *step) setVersioning() {
	b := t.bucket()
	need(t.N == api.Enabled || t.N == api.Suspended && !b.Lock, api.ErrState)
	need(t.Code || !b.Mfa && !t.Mfa, api.ErrMfa)
	b.Versioning, b.Mfa = t.N, t.Mfa
}

func (t *step) setDefault() {
	b := t.bucket()
	need(b.Lock, api.ErrNoLock)
	need(rightDefault(t.N, t.M), api.ErrState)
	b.Default, b.Days = t.N, t.M
}

func (t *step) setPolicy() {
	b := t.bucket()
	need(isPolicy(t.Text), api.ErrPolicy)
	b.Policy = t.Text
}

func (t *step) setLifecycle() {
	b := t.bucket()
	need(isRule(t.N) && isRule(t.M), api.ErrState)
	b.Expire, b.Noncurrent = t.N, t.M
}

func (t *step) listBuckets() {
	for _, b := range t.state.Buckets {
		t.answer.Names = append(t.answer.Names, b.Name)
	}
}
