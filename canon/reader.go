package canon

import (
	"bytes"
	"sync/atomic"

	"stele/api"
)

// Reader is of parts, one behind the other.
type Reader struct {
	rest   []byte // what comes yet
	broken atomic.Bool
}

// Read: a reader of b.
func Read(b []byte) *Reader { return &Reader{rest: bytes.Clone(b)} }

// Uint: the number that comes next.
func (r *Reader) Uint() uint64 {
	n, ok := r.head(numberMark, numberSize)
	if !ok {
		return 0
	}
	r.rest = r.rest[1+numberSize:]
	return n
}

// Bytes: the bytes that come next.
func (r *Reader) Bytes() []byte { return bytes.Clone(r.body(bytesMark)) }

// Text: the text that comes next.
func (r *Reader) Text() string { return string(r.body(textMark)) }

// Bool: the truth that comes next.
func (r *Reader) Bool() bool {
	mark := r.mark()
	if mark != trueMark && mark != falseMark {
		r.fail()
		return false
	}
	r.rest = r.rest[1:]
	return mark == trueMark
}

// List: how many parts the list has whose beginning comes next. One of more
// than most breaks the reader.
func (r *Reader) List(most int) int {
	n, ok := r.head(listMark, countSize)
	if !ok {
		return 0
	}
	if most < 0 || n > uint64(most) {
		r.fail()
		return 0
	}
	r.rest = r.rest[1+countSize:]
	return int(n)
}

// Left: how many bytes come yet.
func (r *Reader) Left() int {
	if r == nil {
		return 0
	}
	return len(r.rest)
}

// Done: OK, if all was read and nothing was wrong.
func (r *Reader) Done() api.Errno {
	if r == nil {
		return api.ErrNil
	}
	if r.broken.Load() || len(r.rest) > 0 {
		return api.ErrForm
	}
	return api.OK
}

// mark: the next part's, or 0, which is none, where nothing is to be read.
func (r *Reader) mark() byte {
	if r == nil || r.broken.Load() || len(r.rest) == 0 {
		return 0
	}
	return r.rest[0]
}

func (r *Reader) fail() {
	if r != nil {
		r.broken.Store(true)
	}
}

// head: the number in the size bytes behind the mark, the highest first. It
// goes on behind nothing, since what follows may yet be wrong.
func (r *Reader) head(mark byte, size int) (uint64, bool) {
	if r.mark() != mark || len(r.rest) < 1+size {
		r.fail()
		return 0, false
	}
	n := uint64(0)
	for _, b := range r.rest[1 : 1+size] {
		n = n<<8 | uint64(b)
	}
	return n, true
}

// body: the bytes of the part of that mark; they are the reader's own.
func (r *Reader) body(mark byte) []byte {
	n, ok := r.head(mark, countSize)
	if !ok {
		return nil
	}
	tail := r.rest[1+countSize:]
	if n > uint64(len(tail)) {
		r.fail()
		return nil
	}
	r.rest = tail[n:]
	return tail[:n]
}
