package model

import (
	"slices"
	"strings"

	"stele/api"
	"stele/policy"
	"stele/upload"
)

// Right: can s be the state of a store?
func Right(s api.State) bool {
	return s.Clock <= api.MaxTime && rightBuckets(s.Buckets) && rightVersions(s) && rightUploads(s)
}

// rightBuckets: do they rise, and is each of them right?
func rightBuckets(l []api.Bucket) bool {
	for i, b := range l {
		if i > 0 && b.Name <= l[i-1].Name || !rightBucket(b) {
			return false
		}
	}
	return len(l) <= api.MaxBuckets
}

// rightBucket: are its name and its settings right?
func rightBucket(b api.Bucket) bool {
	return Name(b.Name) && rightVersioning(b) && rightDefault(b.Default, b.Days) && (b.Lock || b.Default == 0) &&
		isPolicy(b.Policy) && isRule(b.Expire) && isRule(b.Noncurrent)
}

func rightVersioning(b api.Bucket) bool {
	if b.Lock {
		return b.Versioning == api.Enabled
	}
	return b.Versioning == api.Off || b.Versioning == api.Enabled || b.Versioning == api.Suspended
}

// rightDefault: may a bucket with lock keep new versions by this mode for so
// many days? With no mode there are no days.
func rightDefault(mode, days int) bool {
	if mode == 0 {
		return days == 0
	}
	return 0 < mode && mode <= api.Compliance && 1 <= days && days <= api.MaxDays
}

func isPolicy(text string) bool {
	_, e := policy.Parse(text)
	return e == api.OK
}

// isRule: can it be the days of a rule?
func isRule(days int) bool { return 0 <= days && days <= api.MaxDays }

// identity: what no two versions have alike.
type identity struct {
	bucket, key string
	id          uint64
}

// rightVersions: do they rise, is each of them right, and none there twice?
func rightVersions(s api.State) bool {
	places := map[identity]int{}
	for i, v := range s.Versions {
		at, there := find(s.Buckets, v.Bucket)
		if !there || !rightVersion(v, s.Buckets[at]) || v.Order >= s.Next || v.Time > s.Clock {
			return false
		}
		who := identity{v.Bucket, v.Key, v.Id}
		if _, twice := places[who]; twice || i > 0 && v.Order <= s.Versions[i-1].Order {
			return false
		}
		places[who] = i
	}
	return true
}

// rightVersion: can v be a version of b?
func rightVersion(v api.Version, b api.Bucket) bool {
	none := api.Retain{}
	kept := v.R != none || v.Hold
	switch {
	case !Key(v.Key) || len(v.Data) > api.MaxParts*api.MaxBody:
		return false
	case v.R.Mode < 0 || v.R.Mode > api.Compliance || v.R.Mode == 0 && v.R != none:
		return false
	case v.Marker && (len(v.Data) > 0 || kept) || !b.Lock && kept:
		return false
	}
	return b.Versioning != api.Off || v.Id == 0 && !v.Marker
}

// rightUploads: do they rise, and is each of them right?
func rightUploads(s api.State) bool {
	last := uint64(0)
	for _, u := range s.Uploads {
		_, there := find(s.Buckets, u.Bucket)
		if !there || u.Id <= last || !Key(u.Key) || !upload.Right(u) || u.Time > s.Clock {
			return false
		}
		last = u.Id
	}
	return len(s.Uploads) <= api.MaxUploads
}

// find: where the bucket of this name stands among buckets that rise, or where
// it would, and is it there?
func find(l []api.Bucket, name string) (int, bool) {
	return slices.BinarySearchFunc(l, name, func(b api.Bucket, name string) int { return strings.Compare(b.Name, name) })
}
