package state

import (
	"diapause/api"
	"diapause/pack"
)

// read returns the state whose encoding is b, if there is one, and any state if there is none.
func read(b []byte) State {
	r := pack.NewReader(b)
	var s State
	s.Asks = r.Number() + noAsk
	s.Vals = pack.ListOf(r, api.MaxStack, (*pack.Reader).Val)
	s.Frames = pack.ListOf(r, api.MaxDepth, getFrame)
	return s
}

func getFrame(r *pack.Reader) Frame {
	var f Frame
	f.Fn = r.Number()
	f.Pc = r.Number()
	f.Base = r.Number()
	f.Locals = pack.ListOf(r, api.MaxLocals, (*pack.Reader).Val)
	f.Labels = pack.ListOf(r, api.MaxNest, getLabel)
	return f
}

func getLabel(r *pack.Reader) Label {
	var l Label
	l.At = r.Number()
	l.Height = r.Number()
	return l
}
