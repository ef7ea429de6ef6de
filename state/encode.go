package state

import (
	"slices"

	"diapause/api"
	"diapause/leb"
)

// encoded returns the encoding of s, if s is valid. No two states have the same one: each number tells itself where it ends,
// and so does each list, by the number of its elements.
func encoded(s State) []byte {
	return slices.Concat(putNumber(s.Asks-noAsk), putList(s.Vals, putVal), putList(s.Frames, putFrame))
}

func putNumber(n int) []byte {
	return leb.PutU(nil, uint64(n))
}

// putList encodes a list, behind the number of its elements.
func putList[E any](l []E, put func(E) []byte) []byte {
	out := putNumber(len(l))
	for _, x := range l {
		out = append(out, put(x)...)
	}
	return out
}

func putVal(v api.Val) []byte {
	return append(putNumber(v.Kind), leb.PutS(nil, v.N)...)
}

func putFrame(f Frame) []byte {
	return slices.Concat(putNumber(f.Fn), putNumber(f.Pc), putNumber(f.Base), putList(f.Locals, putVal), putList(f.Labels, putLabel))
}

func putLabel(l Label) []byte {
	return append(putNumber(l.At), putNumber(l.Height)...)
}
