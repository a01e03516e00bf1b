package space

import (
	"bytes"

	"stele/api"
	"stele/journal"
)

// Tx is a transaction of a journal that gives out sectors, and takes them back.
type Tx struct {
	*journal.Tx
	taken []byte // the map as this transaction sees it, whatever others commit
	size  int    // of the disk
}

// Open: a transaction, with the map as it stands now.
func Open(j *journal.Journal) (*Tx, api.Errno) {
	if j == nil {
		return nil, api.ErrNil
	}
	b, e := j.Read(Map)
	if e != api.OK {
		return nil, e
	}
	return &Tx{Tx: j.Begin(), taken: b, size: j.Size()}, api.OK
}

// Read: sector i as the transaction has it. The map is nobody's but this
// package's.
func (t *Tx) Read(i int) ([]byte, api.Errno) {
	if t == nil {
		return nil, api.ErrNil
	}
	if i < Root {
		return nil, api.ErrSector
	}
	return t.Tx.Read(i)
}

// Write: b is to be the bytes of sector i, when the transaction is committed.
func (t *Tx) Write(i int, b []byte) api.Errno {
	if t == nil {
		return api.ErrNil
	}
	if i < Root {
		return api.ErrSector
	}
	return t.Tx.Write(i, b)
}

// Take: the least sector that is free, whose bytes are 0 from now on, whatever
// the one who had it ahead left there.
func (t *Tx) Take() (int, api.Errno) {
	if t == nil {
		return 0, api.ErrNil
	}
	i, ok := t.least()
	if !ok {
		return 0, api.ErrFull
	}
	if e := t.Tx.Write(i, make([]byte, api.Sector)); e != api.OK {
		return 0, e
	}
	if e := t.turn(i); e != api.OK {
		return 0, e
	}
	return i, api.OK
}

// Give: sector i is free again. Its bytes stay till it is taken anew.
func (t *Tx) Give(i int) api.Errno {
	if t == nil {
		return api.ErrNil
	}
	if i < Area || i >= t.size || !Taken(t.taken, i) {
		return api.ErrSector
	}
	return t.turn(i)
}

// Free: how many sectors can be taken yet.
func (t *Tx) Free() int {
	if t == nil {
		return 0
	}
	gone := Count(t.taken, t.size) - Count(t.taken, Area)
	return t.size - Area - gone
}

// Left: how many sectors more the transaction can have.
func (t *Tx) Left() int {
	if t == nil {
		return 0
	}
	return api.MaxTx - t.Len()
}

// Commit: what was written, taken and given back holds, all of it or nothing.
func (t *Tx) Commit() api.Errno {
	if t == nil {
		return api.ErrNil
	}
	return t.Tx.Commit()
}

// least: the first sector that is free; false, if none is.
func (t *Tx) least() (int, bool) {
	for i := Area; i < t.size; i++ {
		if !Taken(t.taken, i) {
			return i, true
		}
	}
	return 0, false
}

// turn: a sector that was free is taken, one that was taken is free. A map
// that the journal's transaction refuses is not this one's either.
func (t *Tx) turn(i int) api.Errno {
	b := bytes.Clone(t.taken)
	b[i/8] ^= bit(i)
	if e := t.Tx.Write(Map, b); e != api.OK {
		return e
	}
	t.taken = b
	return api.OK
}
