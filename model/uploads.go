package model

import (
	"cmp"
	"slices"

	"stele/api"
	"stele/upload"
)

func (t *step) begin() {
	t.bucket()
	need(Key(t.Key), api.ErrName)
	need(len(t.state.Uploads) < api.MaxUploads, api.ErrBig)
	at, there := slices.BinarySearchFunc(t.state.Uploads, t.Draw, func(u api.Upload, id uint64) int { return cmp.Compare(u.Id, id) })
	need(t.Draw != 0 && !there, api.ErrDraw)
	u := api.Upload{Bucket: t.Bucket, Key: t.Key, Id: t.Draw, Time: t.state.Clock}
	t.state.Uploads = slices.Insert(t.state.Uploads, at, u)
	t.answer.Version = u.Id
}

// upload: where the one that the operation names stands. ErrUpload: there is
// none.
func (t *step) upload() int {
	t.bucket()
	at := slices.IndexFunc(t.state.Uploads, func(u api.Upload) bool {
		return u.Id == t.Version && u.Bucket == t.Bucket && u.Key == t.Key
	})
	need(at >= 0, api.ErrUpload)
	return at
}

func (t *step) part() {
	at := t.upload()
	u, e := upload.Put(t.state.Uploads[at], t.N, t.Data)
	need(e == api.OK, e)
	t.state.Uploads[at] = u
}

func (t *step) complete() {
	at := t.upload()
	data, e := upload.Join(t.state.Uploads[at], t.Parts)
	need(e == api.OK, e)
	t.add(*t.bucket(), data)
	t.dropUpload(at)
}

func (t *step) abort() { t.dropUpload(t.upload()) }

func (t *step) dropUpload(at int) { t.state.Uploads = slices.Delete(t.state.Uploads, at, at+1) }
