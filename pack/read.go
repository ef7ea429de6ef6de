package pack

import (
	"diapause/api"
	"diapause/leb"
)

// The bits of the encoded numbers.
const (
	small = 32
	large = 64 // of those that Signed has put
)

// Reader goes through what should have been put. It looks at no more than it needs to find what that was: whoever has read all
// of it puts it again, and holds that against all the bytes.
type Reader struct {
	rest []byte
}

// NewReader returns a Reader of b.
func NewReader(b []byte) *Reader {
	return &Reader{rest: b}
}

// fail gives up what is left, so that only zeros are read from here on.
func (r *Reader) fail() {
	r.rest = nil
}

// Number reads a number that is not negative.
func (r *Reader) Number() int {
	n, k, err := leb.U(r.rest, small)
	if err != api.OK {
		r.fail()
		return 0
	}
	r.rest = r.rest[k:]
	return int(n)
}

// Signed reads any number.
func (r *Reader) Signed() int64 {
	n, k, err := leb.S(r.rest, large)
	if err != api.OK {
		r.fail()
		return 0
	}
	r.rest = r.rest[k:]
	return n
}

// Val reads a value.
func (r *Reader) Val() api.Val {
	var v api.Val
	v.Kind = r.Number()
	v.N = r.Signed()
	return v
}

// Bytes reads a byte string, which remains a part of what is read.
func (r *Reader) Bytes() []byte {
	n := r.Number()
	if n > len(r.rest) {
		r.fail()
		return nil
	}
	b := r.rest[:n]
	r.rest = r.rest[n:]
	return b
}

// ListOf reads a list of at most so many elements: a few bytes can tell of more than there is memory for.
func ListOf[E any](r *Reader, most int, get func(*Reader) E) []E {
	count := r.Number()
	if count > most {
		r.fail()
		return nil
	}
	var l []E
	for range count {
		l = append(l, get(r))
	}
	return l
}
