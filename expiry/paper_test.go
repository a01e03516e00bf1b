package expiry_test

import (
	"fmt"
	"math"
	"math/big"
	"math/rand"
	"slices"

	"stele/api"
)

// What the document's words say, on paper, and the edges that it names.

const (
	maxTime = 253402300799
	maxDays = 36500
	day     = 86400
)

// isOf: is v one of the bucket's key?
func isOf(v api.Version, bucket, key string) bool { return v.Bucket == bucket && v.Key == key }

// latestSays: the place that no other one stands against: of a greater Order,
// or of the same one and ahead of it.
func latestSays(l []api.Version, bucket, key string) int {
	for i, v := range l {
		best := isOf(v, bucket, key)
		for j, w := range l {
			if isOf(w, bucket, key) && (w.Order > v.Order || w.Order == v.Order && j < i) {
				best = false
			}
		}
		if best {
			return i
		}
	}
	return -1
}

// laterSays: chapter 3's Later, in numbers without an end.
func laterSays(t uint64, days int) uint64 {
	if t > maxTime || days < 0 {
		return t
	}
	sum := new(big.Int).Mul(big.NewInt(int64(days)), big.NewInt(day))
	sum.Add(sum, new(big.Int).SetUint64(t))
	if sum.Cmp(big.NewInt(maxTime)) > 0 {
		return maxTime
	}
	return sum.Uint64()
}

// staysSays: chapter 15's MayDelete without a bypass does not let it go.
func staysSays(v api.Version, now uint64) bool {
	return v.Hold || (v.R.Mode == 1 || v.R.Mode == 2) && now < v.R.Until
}

// oneDueSays: is the version at a place due, latest or not?
func oneDueSays(b api.Bucket, v api.Version, latest bool, now uint64) bool {
	if v.Bucket != b.Name || staysSays(v, now) {
		return false
	}
	days := b.Noncurrent
	if latest {
		days = b.Expire
		if v.Marker || b.Versioning != 0 {
			return false
		}
	}
	return days > 0 && !(laterSays(v.Time, days) > now)
}

func dueSays(b api.Bucket, l []api.Version, now uint64) []uint64 {
	var orders []uint64
	for i, v := range l {
		if oneDueSays(b, v, latestSays(l, v.Bucket, v.Key) == i, now) {
			orders = append(orders, v.Order)
		}
	}
	return orders
}

// ver: a version of bucket b's key.
func ver(key string, order, time uint64) api.Version {
	return api.Version{Bucket: "b", Key: key, Id: order, Order: order, Time: time}
}

func in(bucket string, v api.Version) api.Version { v.Bucket = bucket; return v }
func marker(v api.Version) api.Version            { v.Marker = true; return v }
func held(v api.Version) api.Version              { v.Hold = true; return v }
func under(v api.Version, mode int, until uint64) api.Version {
	v.R = api.Retain{Mode: mode, Until: until}
	return v
}

// rules: bucket b with its versioning, Expire and Noncurrent.
func rules(versioning, expire, noncurrent int) api.Bucket {
	return api.Bucket{Name: "b", Versioning: versioning, Expire: expire, Noncurrent: noncurrent}
}

// someDays: none, a few, the most that a rule has, and what a narrower or
// another type would take for another number.
func someDays() []int {
	return []int{
		0, 1, 2, 3, maxDays - 1, maxDays, maxDays + 1, math.MaxInt32, 1 << 32, 1<<32 + 1, maxTime / day, maxTime/day + 1, math.MaxInt64 / day, math.MaxInt64/day + 1,
		math.MaxInt, math.MaxInt - 1, 213503982334601, 213503982334602, -1, -2, -maxDays, math.MinInt, math.MinInt + 1,
	}
}

// someTimes: the ends of all times and of their types, and what a narrower or
// signed type would take for another one.
func someTimes() []uint64 {
	return []uint64{
		0, 1, day - 1, day, day + 1, 2 * day, math.MaxInt32, math.MaxUint32, math.MaxUint32 + 1,
		maxTime - day, maxTime - 1, maxTime, maxTime + 1, math.MaxInt64, 1 << 63, math.MaxUint64 - 1, math.MaxUint64,
	}
}

// around: t and those next to it, where there are such.
func around(t uint64) []uint64 {
	l := []uint64{t}
	if t > 0 {
		l = append(l, t-1)
	}
	if t < math.MaxUint64 {
		l = append(l, t+1)
	}
	return l
}

// show: a version as text.
func show(v api.Version) string {
	s := fmt.Sprintf("%q/%q id %d order %d at %d", v.Bucket, v.Key, v.Id, v.Order, v.Time)
	if v.R != (api.Retain{}) {
		s += fmt.Sprintf(" mode %d until %d", v.R.Mode, v.R.Until)
	}
	if v.Hold {
		s += " held"
	}
	if v.Marker {
		s += " marker"
	}
	if len(v.Data) > 0 {
		s += fmt.Sprintf(" %q", v.Data)
	}
	return s
}

func showAll(l []api.Version) string {
	s := ""
	for _, v := range l {
		s += "[" + show(v) + "] "
	}
	return s
}

func short(s string) string {
	if len(s) > 600 {
		return s[:600] + ".."
	}
	return s
}

// roomy: the same versions, with spare room that is written full, in the list
// and in their data.
func roomy(l []api.Version) []api.Version {
	r := make([]api.Version, 0, len(l)+3)
	for _, v := range l {
		data := []byte("dataspare")
		v.Data = data[:4]
		r = append(r, v)
	}
	for i := len(r); i < cap(r); i++ {
		r[:cap(r)][i] = api.Version{Bucket: "b", Key: "k", Order: math.MaxUint64}
	}
	return r
}

// whole: versions with all the spare room of their lists, as text.
func whole(l []api.Version) string {
	l = slices.Clone(l[:cap(l)])
	for i := range l {
		l[i].Data = l[i].Data[:cap(l[i].Data)]
	}
	return showAll(l)
}

// anyVersion: of chance, its times about now.
func anyVersion(c *rand.Rand, now uint64) api.Version {
	v := api.Version{
		Bucket: []string{"b", "b", "b", "c"}[c.Intn(4)], Key: []string{"k", "l", "m", ""}[c.Intn(4)],
		Id: uint64(c.Intn(3)), Order: uint64(c.Intn(12)), Time: now - min(now, uint64(c.Intn(4*day))),
		Marker: c.Intn(5) == 0, Hold: c.Intn(6) == 0,
	}
	if c.Intn(4) == 0 {
		v.Time = now/day*day - min(now/day*day, uint64(c.Intn(4)*day))
	}
	if c.Intn(3) == 0 {
		v.R = api.Retain{Mode: c.Intn(4), Until: now + uint64(c.Intn(3*day)) - min(now, day)}
	}
	return v
}

// anyList: of chance; Orders in mixed, rising or falling order.
func anyList(c *rand.Rand, now uint64) []api.Version {
	var l []api.Version
	for range c.Intn(12) {
		l = append(l, anyVersion(c, now))
	}
	switch c.Intn(3) {
	case 0:
		slices.SortStableFunc(l, func(a, b api.Version) int { return int(a.Order) - int(b.Order) })
	case 1:
		slices.SortStableFunc(l, func(a, b api.Version) int { return int(b.Order) - int(a.Order) })
	}
	return l
}

// anyBucket: of chance, with both rules, one, or none.
func anyBucket(c *rand.Rand) api.Bucket {
	days := []int{0, 1, 2, 3, maxDays}
	return api.Bucket{
		Name: []string{"b", "b", "b", "c", "d"}[c.Intn(5)], Versioning: c.Intn(3), Lock: c.Intn(2) == 0, Mfa: c.Intn(2) == 0,
		Default: c.Intn(3), Days: c.Intn(3), Policy: "allow", Expire: days[c.Intn(5)], Noncurrent: days[c.Intn(5)],
	}
}
