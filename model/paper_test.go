package model_test

import (
	"bytes"
	"reflect"
	"regexp"
	"slices"
	"sort"

	"stele/api"
	"stele/expiry"
	"stele/lock"
	"stele/policy"
	"stele/upload"
)

// What the document's words say, on paper.

const (
	maxTime    = 253402300799
	maxDays    = 36500
	maxBody    = 1536
	maxParts   = 4
	maxBuckets = 8
	maxUploads = 8
	maxList    = 100
	governance = 1
	compliance = 2
	off        = 0
	enabled    = 1
	suspended  = 2
)

var (
	names = regexp.MustCompile(`\A[a-z0-9-]{1,16}\z`)
	keys  = regexp.MustCompile(`\A[\x21-\x7e]{1,48}\z`)
)

func nameSays(s string) bool { return names.MatchString(s) }
func keySays(s string) bool  { return keys.MatchString(s) }

func policySays(s string) bool { _, e := policy.Parse(s); return e == api.OK }

// bucketSays: the bucket of this name.
func bucketSays(s api.State, name string) (api.Bucket, bool) {
	for _, b := range s.Buckets {
		if b.Name == name {
			return b, true
		}
	}
	return api.Bucket{}, false
}

// wrongsSays: which of the words' conditions s breaks.
func wrongsSays(s api.State) []string {
	broken := map[string]bool{}
	says := func(holds bool, what string) {
		if !holds {
			broken[what] = true
		}
	}
	says(s.Clock <= maxTime, "clock")
	says(len(s.Buckets) <= maxBuckets, "buckets")
	says(len(s.Uploads) <= maxUploads, "uploads")
	for i, b := range s.Buckets {
		for _, a := range s.Buckets[:i] {
			says(a.Name < b.Name, "names rise")
		}
		wrongOfBucket(b, says)
	}
	for i, v := range s.Versions {
		for _, w := range s.Versions[:i] {
			says(w.Order < v.Order, "orders rise")
			says(w.Bucket != v.Bucket || w.Key != v.Key || w.Id != v.Id, "twice")
		}
		says(v.Order < s.Next, "next")
		says(v.Time <= s.Clock, "version's time")
		b, there := bucketSays(s, v.Bucket)
		says(there, "version's bucket")
		if there {
			wrongOfVersion(b, v, says)
		}
	}
	for i, u := range s.Uploads {
		for _, w := range s.Uploads[:i] {
			says(w.Id < u.Id, "ids rise")
		}
		_, there := bucketSays(s, u.Bucket)
		says(there, "upload's bucket")
		says(u.Id >= 1, "id from 1")
		says(keySays(u.Key), "upload's key")
		says(upload.Right(u), "parts")
		says(u.Time <= s.Clock, "upload's time")
	}
	var l []string
	for what := range broken {
		l = append(l, what)
	}
	sort.Strings(l)
	return l
}

func wrongOfBucket(b api.Bucket, says func(bool, string)) {
	says(nameSays(b.Name), "name")
	says(b.Versioning == off || b.Versioning == enabled || b.Versioning == suspended, "versioning")
	if b.Lock {
		says(b.Versioning == enabled, "enabled with lock")
	} else {
		says(b.Default == 0, "default without lock")
	}
	says(b.Default >= 0 && b.Default <= compliance, "default")
	if b.Default != 0 {
		says(b.Days >= 1 && b.Days <= maxDays, "days")
	} else {
		says(b.Days == 0, "days of none")
	}
	says(policySays(b.Policy), "policy")
	says(b.Expire >= 0 && b.Expire <= maxDays, "expire")
	says(b.Noncurrent >= 0 && b.Noncurrent <= maxDays, "noncurrent")
}

func wrongOfVersion(b api.Bucket, v api.Version, says func(bool, string)) {
	says(keySays(v.Key), "version's key")
	says(len(v.Data) <= 6144, "bytes")
	if v.Marker {
		says(len(v.Data) == 0, "marker's data")
		says(v.R.Mode == 0 && v.R.Until == 0, "marker's retention")
		says(!v.Hold, "marker's hold")
	}
	says(v.R.Mode >= 0 && v.R.Mode <= compliance, "mode")
	if v.R.Mode == 0 {
		says(v.R.Until == 0, "until of none")
	}
	if !b.Lock {
		says(v.R.Mode == 0 && v.R.Until == 0, "retention without lock")
		says(!v.Hold, "hold without lock")
	}
	if b.Versioning == off {
		says(v.Id == 0, "id where off")
		says(!v.Marker, "marker where off")
	}
}

func rightSays(s api.State) bool { return len(wrongsSays(s)) == 0 }

// bare: the lists of s without an element made nil, so that states may be
// held against each other as a whole.
func bare(s api.State) api.State {
	s = copied(s)
	if len(s.Buckets) == 0 {
		s.Buckets = nil
	}
	if len(s.Versions) == 0 {
		s.Versions = nil
	}
	if len(s.Uploads) == 0 {
		s.Uploads = nil
	}
	for i := range s.Versions {
		if len(s.Versions[i].Data) == 0 {
			s.Versions[i].Data = nil
		}
	}
	for i := range s.Uploads {
		if len(s.Uploads[i].Parts) == 0 {
			s.Uploads[i].Parts = nil
		}
		for j := range s.Uploads[i].Parts {
			if len(s.Uploads[i].Parts[j].Data) == 0 {
				s.Uploads[i].Parts[j].Data = nil
			}
		}
	}
	return s
}

func sameSays(a, b api.State) bool { return reflect.DeepEqual(bare(a), bare(b)) }

// sameResult: are two answers alike, a list without an element nil or not?
func sameResult(a, b api.Result) bool {
	if len(a.Names) != len(b.Names) || len(a.Names) > 0 && !slices.Equal(a.Names, b.Names) || !bytes.Equal(a.Data, b.Data) {
		return false
	}
	if !sameSays(api.State{Versions: a.Versions}, api.State{Versions: b.Versions}) {
		return false
	}
	a.Names, a.Data, a.Versions, b.Names, b.Data, b.Versions = nil, nil, nil, nil, nil, nil
	return reflect.DeepEqual(a, b)
}

// copied: s, all of it.
func copied(s api.State) api.State {
	s.Buckets = append([]api.Bucket(nil), s.Buckets...)
	s.Versions = append([]api.Version(nil), s.Versions...)
	s.Uploads = append([]api.Upload(nil), s.Uploads...)
	for i := range s.Versions {
		s.Versions[i].Data = append([]byte(nil), s.Versions[i].Data...)
	}
	for i := range s.Uploads {
		s.Uploads[i].Parts = append([]api.Part(nil), s.Uploads[i].Parts...)
		for j := range s.Uploads[i].Parts {
			s.Uploads[i].Parts[j].Data = append([]byte(nil), s.Uploads[i].Parts[j].Data...)
		}
	}
	return s
}

// paper: an operation on a state, as the words go.
type paper struct {
	s     api.State
	o     api.Op
	b     api.Bucket
	there bool
}

// stepSays: what Step tells.
func stepSays(s api.State, o api.Op, now uint64) (api.State, api.Result) {
	s = copied(s)
	if now > maxTime {
		now = maxTime
	}
	if now > s.Clock {
		s.Clock = now
	}
	b, there := bucketSays(s, o.Bucket)
	p := &paper{s, o, b, there}
	if e := first(p.errors()...); e != api.OK {
		return s, api.Result{Err: e}
	}
	r := p.done()
	return p.s, r
}

// refusal: an error, and whether it applies.
type refusal struct {
	e       api.Errno
	applies bool
}

// first: the error that is named first, of those that apply.
func first(l ...refusal) api.Errno {
	for _, r := range l {
		if r.applies {
			return r.e
		}
	}
	return api.OK
}

// errors: those that the words name for the kind, in their order.
func (p *paper) errors() []refusal {
	o := p.o
	noBucket := refusal{api.ErrBucket, !p.there}
	noLock := refusal{api.ErrNoLock, !p.b.Lock}
	noName := refusal{api.ErrName, !keySays(o.Key)}
	switch o.Kind {
	case 1:
		return []refusal{{api.ErrName, !nameSays(o.Bucket)}, {api.ErrTwice, p.there}, {api.ErrBig, len(p.s.Buckets) >= maxBuckets}}
	case 2:
		return []refusal{noBucket, {api.ErrNotEmpty, p.full()}}
	case 3:
		return []refusal{noBucket, {api.ErrState, o.N != enabled && o.N != suspended || o.N == suspended && p.b.Lock}, {api.ErrMfa, (p.b.Mfa || o.Mfa) && !o.Code}}
	case 4:
		wrong := o.N < 0 || o.N > compliance || o.N == 0 && o.M != 0 || o.N != 0 && (o.M < 1 || o.M > maxDays)
		return []refusal{noBucket, noLock, {api.ErrState, wrong}}
	case 5:
		return []refusal{noBucket, {api.ErrPolicy, !policySays(o.Text)}}
	case 6:
		return []refusal{noBucket, {api.ErrState, o.N < 0 || o.N > maxDays || o.M < 0 || o.M > maxDays}}
	case 7:
		return append([]refusal{noBucket, noName, {api.ErrBig, len(o.Data) > maxBody}}, p.errorsOfNew()...)
	case 8:
		return append([]refusal{noBucket}, p.errorsOfVersion()...)
	case 9:
		return append([]refusal{noBucket, noName}, p.errorsOfDelete()...)
	case 10:
		_, v, _ := p.version()
		stays := lock.MaySet(v.R, o.R, p.s.Clock, o.Bypass)
		return append(append([]refusal{noBucket, noLock}, p.errorsOfVersion()...), refusal{stays, stays != api.OK})
	case 11:
		return append([]refusal{noBucket, noLock}, p.errorsOfVersion()...)
	case 12:
		return []refusal{noBucket, {api.ErrArg, o.N < 1 || o.N > maxList}}
	case 13:
		return []refusal{noBucket, noName, {api.ErrBig, len(p.s.Uploads) >= maxUploads}, {api.ErrDraw, o.Draw == 0 || p.uploadIs(o.Draw)}}
	case 14, 15, 16:
		return append([]refusal{noBucket}, p.errorsOfUpload()...)
	case 17, 18, 19:
		return nil
	}
	return []refusal{{api.ErrArg, true}}
}

// full: is a version or an upload in the bucket?
func (p *paper) full() bool {
	for _, v := range p.s.Versions {
		if v.Bucket == p.o.Bucket {
			return true
		}
	}
	for _, u := range p.s.Uploads {
		if u.Bucket == p.o.Bucket {
			return true
		}
	}
	return false
}

func (p *paper) errorsOfNew() []refusal {
	return []refusal{
		{api.ErrNoLock, (p.o.R.Mode != 0 || p.o.Hold) && !p.b.Lock},
		{api.ErrState, !lock.Right(p.o.R, p.s.Clock)},
		{api.ErrDraw, p.b.Versioning == enabled && p.drawn()},
	}
}

// drawn: can the draw be no id of a version to come?
func (p *paper) drawn() bool {
	_, there := p.named(p.o.Draw)
	return p.o.Draw == 0 || there
}

// named: where the version of bucket, key, Id stands.
func (p *paper) named(id uint64) (int, bool) {
	for i, v := range p.s.Versions {
		if v.Bucket == p.o.Bucket && v.Key == p.o.Key && v.Id == id {
			return i, true
		}
	}
	return -1, false
}

// latest: where the version of the key with the greatest Order stands.
func (p *paper) latest() (int, bool) {
	at := -1
	for i, v := range p.s.Versions {
		if v.Bucket == p.o.Bucket && v.Key == p.o.Key && (at < 0 || v.Order > p.s.Versions[at].Order) {
			at = i
		}
	}
	return at, at >= 0
}

// version: the one that is asked for, marker or not.
func (p *paper) version() (int, api.Version, bool) {
	at, there := p.latest()
	if p.o.Has {
		at, there = p.named(p.o.Version)
	}
	if !there {
		return -1, api.Version{}, false
	}
	return at, p.s.Versions[at], true
}

func (p *paper) errorsOfVersion() []refusal {
	_, v, there := p.version()
	if p.o.Has {
		return []refusal{{api.ErrVersion, !there}, {api.ErrMarker, v.Marker}}
	}
	return []refusal{{api.ErrKey, !there || v.Marker}}
}

func (p *paper) errorsOfDelete() []refusal {
	if p.o.Has {
		_, v, there := p.version()
		stays := lock.MayDelete(v, p.s.Clock, p.o.Bypass)
		return []refusal{{api.ErrVersion, !there}, {api.ErrMfa, p.b.Mfa && !p.o.Code}, {stays, stays != api.OK}}
	}
	return []refusal{{api.ErrDraw, p.b.Versioning == enabled && p.drawn()}}
}

func (p *paper) uploadIs(id uint64) bool {
	for _, u := range p.s.Uploads {
		if u.Id == id {
			return true
		}
	}
	return false
}

// upload: where the one of Id Version, bucket and key stands.
func (p *paper) upload() (int, bool) {
	for i, u := range p.s.Uploads {
		if u.Id == p.o.Version && u.Bucket == p.o.Bucket && u.Key == p.o.Key {
			return i, true
		}
	}
	return -1, false
}

func (p *paper) errorsOfUpload() []refusal {
	at, there := p.upload()
	if !there {
		return []refusal{{api.ErrUpload, true}}
	}
	switch p.o.Kind {
	case 14:
		_, e := upload.Put(p.s.Uploads[at], p.o.N, p.o.Data)
		return []refusal{{e, e != api.OK}}
	case 15:
		_, e := upload.Join(p.s.Uploads[at], p.o.Parts)
		return append([]refusal{{e, e != api.OK}}, p.errorsOfNew()...)
	}
	return nil
}

// done: the state is what the words say behind it; the answer.
func (p *paper) done() api.Result {
	switch o := p.o; o.Kind {
	case 1, 2, 3, 4, 5, 6:
		p.setBucket()
	case 7:
		return p.newVersion(api.Version{Data: o.Data, R: o.R, Hold: o.Hold})
	case 8:
		_, v, _ := p.version()
		return api.Result{Version: v.Id, Data: v.Data, R: v.R, Hold: v.Hold}
	case 9:
		return p.deleted()
	case 10:
		at, v, _ := p.version()
		p.s.Versions[at].R = o.R
		return api.Result{Version: v.Id}
	case 11:
		at, v, _ := p.version()
		p.s.Versions[at].Hold = o.Hold
		return api.Result{Version: v.Id}
	case 12:
		return p.listed()
	case 13, 14, 15, 16:
		return p.uploaded()
	case 17:
		return p.swept()
	case 18:
		var r api.Result
		for _, b := range p.s.Buckets {
			r.Names = append(r.Names, b.Name)
		}
		return r
	}
	return api.Result{}
}

// setBucket: the bucket comes, goes, or has its settings.
func (p *paper) setBucket() {
	o, b := p.o, p.b
	l := slices.DeleteFunc(p.s.Buckets, func(b api.Bucket) bool { return b.Name == o.Bucket })
	switch o.Kind {
	case 1:
		b = api.Bucket{Name: o.Bucket, Lock: o.Lock}
		if o.Lock {
			b.Versioning = enabled
		}
	case 3:
		b.Versioning, b.Mfa = o.N, o.Mfa
	case 4:
		b.Default, b.Days = o.N, o.M
	case 5:
		b.Policy = o.Text
	case 6:
		b.Expire, b.Noncurrent = o.N, o.M
	}
	if o.Kind != 2 {
		l = append(l, b)
	}
	sort.Slice(l, func(i, j int) bool { return l[i].Name < l[j].Name })
	p.s.Buckets = l
}

// gone: the versions without the one at a place.
func (p *paper) gone(at int) {
	p.s.Versions = append(p.s.Versions[:at:at], p.s.Versions[at+1:]...)
}

// goneOfNone: the key's version of Id 0 goes, if there is one.
func (p *paper) goneOfNone() {
	if at, there := p.named(0); there {
		p.gone(at)
	}
}

// newVersion: v comes behind all others.
func (p *paper) newVersion(v api.Version) api.Result {
	v.Bucket, v.Key, v.Time = p.o.Bucket, p.o.Key, p.s.Clock
	v.Data = append([]byte(nil), v.Data...)
	if p.b.Versioning == enabled {
		v.Id = p.o.Draw
	} else {
		p.goneOfNone()
	}
	if v.R.Mode == 0 && !v.Marker {
		v.R = lock.Default(p.b, p.s.Clock)
	}
	v.Order = p.s.Next
	p.s.Next++
	p.s.Versions = append(p.s.Versions, v)
	return api.Result{Version: v.Id, Marker: v.Marker}
}

func (p *paper) deleted() api.Result {
	if p.o.Has {
		at, v, _ := p.version()
		p.gone(at)
		return api.Result{Version: v.Id, Marker: v.Marker}
	}
	if p.b.Versioning == off {
		p.goneOfNone()
		return api.Result{}
	}
	return p.newVersion(api.Version{Marker: true})
}

func (p *paper) listed() api.Result {
	byKey := map[string][]api.Version{}
	for i := len(p.s.Versions) - 1; i >= 0; i-- {
		v := p.s.Versions[i]
		v.Data = nil
		if v.Bucket == p.o.Bucket && v.Key > p.o.Marker {
			byKey[v.Key] = append(byKey[v.Key], v)
		}
	}
	var all []string
	for key := range byKey {
		all = append(all, key)
	}
	sort.Strings(all)
	var r api.Result
	for i, key := range all {
		if i > 0 && len(r.Versions)+len(byKey[key]) > p.o.N {
			r.More = true
			break
		}
		r.Versions = append(r.Versions, byKey[key]...)
	}
	return r
}

func (p *paper) uploaded() api.Result {
	o := p.o
	at, _ := p.upload()
	if o.Kind == 13 {
		p.s.Uploads = append(p.s.Uploads, api.Upload{Bucket: o.Bucket, Key: o.Key, Id: o.Draw, Time: p.s.Clock})
		sort.Slice(p.s.Uploads, func(i, j int) bool { return p.s.Uploads[i].Id < p.s.Uploads[j].Id })
		return api.Result{Version: o.Draw}
	}
	u := p.s.Uploads[at]
	if o.Kind == 14 {
		p.s.Uploads[at], _ = upload.Put(u, o.N, o.Data)
		return api.Result{}
	}
	p.s.Uploads = append(p.s.Uploads[:at:at], p.s.Uploads[at+1:]...)
	if o.Kind == 16 {
		return api.Result{}
	}
	data, _ := upload.Join(u, o.Parts)
	return p.newVersion(api.Version{Data: data, R: o.R, Hold: o.Hold})
}

func (p *paper) swept() api.Result {
	var r api.Result
	for _, b := range p.s.Buckets {
		for _, order := range expiry.Due(b, p.s.Versions, p.s.Clock) {
			at := slices.IndexFunc(p.s.Versions, func(v api.Version) bool { return v.Order == order })
			v := p.s.Versions[at]
			v.Data = nil
			r.Versions = append(r.Versions, v)
			// What went of a key does not make another one of it the latest:
			// Due told all of the bucket at once.
			p.gone(at)
		}
	}
	return r
}
