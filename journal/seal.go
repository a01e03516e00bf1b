package journal

import (
	"bytes"

	"stele/api"
	"stele/canon"
	"stele/digest"
	"stele/disk"
)

const (
	sealPlace = 0
	slotPlace = 1 // of the first slot
	sealName  = "stele"
)

// change: the data that a transaction brings to its places.
type change struct {
	seq    uint64
	places []int
	data   [][]byte
}

// commit: the change to d. The seal is written only when the slots are safe,
// and the places only when the seal is: so what a crash leaves in the places is
// either the elder data, or is brought there again by the seal.
func (c change) commit(d *disk.Disk) api.Errno {
	if e := put(d, slots(len(c.data)), c.data); e != api.OK {
		return e
	}
	if e := put(d, []int{sealPlace}, [][]byte{c.seal()}); e != api.OK {
		return e
	}
	return put(d, c.places, c.data)
}

// seal: the sector that tells of the change, with the digest of its data.
func (c change) seal() []byte {
	parts := canon.Uint(canon.Text(nil, sealName), c.seq)
	parts = canon.List(parts, len(c.places))
	for _, p := range c.places {
		parts = canon.Uint(parts, uint64(p))
	}
	h := digest.New()
	h.Add(parts)
	for _, b := range c.data {
		h.Add(b)
	}
	out := make([]byte, api.Sector)
	copy(out, canon.Bytes(parts, h.Sum()))
	return out
}

// sealed: the change that the front sectors of a disk of that size tell, if
// their seal holds. A change has one seal alone, so that the one there holds if
// it is the one that would be written of what is read.
func sealed(sectors [][]byte, size int) (change, bool) {
	r := canon.Read(sectors[sealPlace])
	r.Text()
	c := change{seq: r.Uint()}
	for range r.List(api.MaxTx) {
		p := r.Uint()
		if p >= uint64(size) || !inArea(int(p), size) {
			return change{}, false
		}
		c.places = append(c.places, int(p))
	}
	c.data = sectors[slotPlace:][:len(c.places)]
	return c, bytes.Equal(c.seal(), sectors[sealPlace])
}

// front: the seal and the slots of d.
func front(d *disk.Disk) ([][]byte, api.Errno) {
	out := make([][]byte, First)
	for i := range out {
		b, e := d.Read(i)
		if e != api.OK {
			return nil, e
		}
		out[i] = b
	}
	return out, api.OK
}

// slots: the places of the first n of them.
func slots(n int) []int {
	out := make([]int, n)
	for k := range out {
		out[k] = slotPlace + k
	}
	return out
}

// put: each of the data is written to its place, and all of it is safe then.
func put(d *disk.Disk, places []int, data [][]byte) api.Errno {
	for k, p := range places {
		if e := d.Write(p, data[k]); e != api.OK {
			return e
		}
	}
	return d.Flush()
}
