package journal

import (
	"maps"
	"slices"
	"sync"

	"stele/api"
)

// sector: the bytes of one, a value, so that to hand it on is to copy it.
type sector [api.Sector]byte

// Tx is a transaction: sectors that come to the area all together, or not.
type Tx struct {
	j       *Journal
	sectors map[int]sector
	once    sync.Once
	tried   bool // to be committed
}

// Read: sector i as the transaction has it, or as the journal has.
func (t *Tx) Read(i int) ([]byte, api.Errno) {
	if t == nil {
		return nil, api.ErrNil
	}
	if s, ok := t.sectors[i]; ok {
		return s[:], api.OK
	}
	return t.j.Read(i)
}

// Write: b is to be the bytes of sector i, when the transaction is committed.
func (t *Tx) Write(i int, b []byte) api.Errno {
	if t == nil {
		return api.ErrNil
	}
	if t.tried || t.j.dead.Load() {
		return api.ErrDown
	}
	if !inArea(i, t.j.Size()) {
		return api.ErrSector
	}
	if len(b) != api.Sector {
		return api.ErrArg
	}
	if _, elder := t.sectors[i]; !elder && len(t.sectors) == api.MaxTx {
		return api.ErrFull
	}
	t.sectors[i] = sector(b)
	return api.OK
}

// Len: how many sectors it has.
func (t *Tx) Len() int {
	if t == nil {
		return 0
	}
	return len(t.sectors)
}

// Commit: the sectors come to the area, all of them or none. It can be done
// once: behind that the transaction takes nothing more.
func (t *Tx) Commit() api.Errno {
	if t == nil {
		return api.ErrNil
	}
	e := api.ErrDown
	t.once.Do(func() {
		t.tried = true
		e = t.commit()
	})
	return e
}

// commit: the first time.
func (t *Tx) commit() api.Errno {
	if t.j.dead.Load() {
		return api.ErrDown
	}
	if len(t.sectors) == 0 {
		return api.OK
	}
	places := slices.Sorted(maps.Keys(t.sectors))
	return t.j.commit(places, t.data(places))
}

// data: the bytes of these sectors, in that order.
func (t *Tx) data(places []int) [][]byte {
	out := make([][]byte, len(places))
	for k, p := range places {
		s := t.sectors[p]
		out[k] = s[:]
	}
	return out
}
