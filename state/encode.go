package state

import (
	"slices"

	"diapause/pack"
)

// encoded returns the encoding of s, if s is valid. No two states have the same one.
func encoded(s State) []byte {
	return slices.Concat(pack.Number(s.Asks-noAsk), pack.List(s.Vals, pack.Val), pack.List(s.Frames, putFrame))
}

func putFrame(f Frame) []byte {
	return slices.Concat(pack.Number(f.Fn), pack.Number(f.Pc), pack.Number(f.Base), pack.List(f.Locals, pack.Val), pack.List(f.Labels, putLabel))
}

func putLabel(l Label) []byte {
	return append(pack.Number(l.At), pack.Number(l.Height)...)
}
