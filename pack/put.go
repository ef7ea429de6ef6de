// Package pack makes bytes of numbers, values and lists, and reads them again: what the encodings are made of whose form the
// document leaves open, and that of dir, for which the document asks just this form of numbers, byte strings and lists.
// Each thing tells itself where it ends, so that different things, one behind the other, give different bytes.
package pack

import (
	"diapause/api"
	"diapause/leb"
)

// Number encodes a number that is not negative.
func Number(n int) []byte {
	return leb.PutU(nil, uint64(n))
}

// Signed encodes any number.
func Signed(n int64) []byte {
	return leb.PutS(nil, n)
}

// Val encodes a value.
func Val(v api.Val) []byte {
	return append(Number(v.Kind), Signed(v.N)...)
}

// Bytes encodes a byte string, behind its length.
func Bytes(b []byte) []byte {
	return append(Number(len(b)), b...)
}

// List encodes a list, behind the number of its elements.
func List[E any](l []E, put func(E) []byte) []byte {
	out := Number(len(l))
	for _, x := range l {
		out = append(out, put(x)...)
	}
	return out
}
