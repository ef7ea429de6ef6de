package super_test

import (
	"math/rand/v2"
	"slices"
	"testing"

	"diapause/api"
	"diapause/dev"
	"diapause/super"
)

// record is what is stored at a place.
type record struct {
	text string
	turn int64
}

// spot is a place on the device of a walk, with what Open may find there: nothing is in doubt but behind a death.
type spot struct {
	at   int
	s    *super.Super
	own  record   // of s
	may  []record // what may be stored
	lost bool     // whether a death within Make may have lost it
}

// walker makes calls in any order at places that lie side by side on one device.
type walker struct {
	t     *testing.T
	r     *rand.Rand
	d     *dev.Dev
	spots []*spot
}

func (w *walker) text() string { return string(mixed(w.r.IntN(41), int(w.r.Uint32()))) }

// make makes one anew.
func (w *walker) make(p *spot) {
	b := w.text()
	dead := w.d.Dead()
	s, err := super.Make(w.d, p.at, []byte(b))
	switch {
	case dead && (s != nil || err != api.ErrDown):
		w.t.Errorf("P18.1: a walk: Make on a dead device: %t, %d", s != nil, err)
	case err == api.OK:
		p.s, p.own = s, record{b, 1}
		p.may, p.lost = []record{p.own}, false
		has(w.t, s, "a walk: Make", b, 1)
	case err != api.ErrDown || s != nil || !w.d.Dead():
		w.t.Errorf("P18.1: a walk: Make: %t, %d", s != nil, err)
	case !dead:
		p.lost = true
	}
}

// save saves a text, also on a device that is dead.
func (w *walker) save(p *spot) {
	b := w.text()
	if w.r.IntN(9) == 0 {
		b += string(mixed(41, 1))
	}
	dead := w.d.Dead()
	err := p.s.Save([]byte(b))
	next := record{b, p.own.turn + 1}
	switch {
	case len(b) > 40 && err != api.ErrForm, len(b) <= 40 && dead && err != api.ErrDown:
		w.t.Errorf("P18.1: a walk: Save of %d bytes, dead: %t: %d", len(b), dead, err)
	case err == api.OK:
		p.own, p.may = next, []record{next}
	case err == api.ErrDown && w.d.Dead() && !dead:
		p.may = append(p.may, next)
	case err != api.ErrForm && !dead:
		w.t.Errorf("P18.1: a walk: Save of %d bytes: %d", len(b), err)
	}
	has(w.t, p.s, "a walk: Save", p.own.text, p.own.turn)
}

// open finds what may be stored, which nobody doubts any more if the device is not dead.
func (w *walker) open(p *spot) {
	s, err := super.Open(w.d, p.at)
	if p.lost && !w.d.Dead() {
		w.make(p)
		return
	}
	if p.lost && (err == api.OK || err == api.ErrCorrupt) {
		return
	}
	if err != api.OK || !slices.Contains(p.may, record{string(s.Text()), s.Turn()}) {
		w.t.Errorf("P18.1: a walk: Open: %d, of %v", err, p.may)
		return
	}
	if !w.d.Dead() {
		p.s, p.own = s, record{string(s.Text()), s.Turn()}
		p.may = []record{p.own}
	}
}

// crash goes on with what a crash leaves of the device.
func (w *walker) crash() {
	var keep []bool
	for range w.r.IntN(7) {
		keep = append(keep, w.r.IntN(2) == 0)
	}
	w.d = w.d.Crash(keep...)
	for _, p := range w.spots {
		w.open(p)
	}
}

// beside writes to a sector that belongs to none of the places, without a Flush.
func (w *walker) beside() {
	w.d.Write(0, mixed(w.r.IntN(65), int(w.r.Uint32())))
}

func (w *walker) walk(calls int) {
	for range calls {
		p := w.spots[w.r.IntN(len(w.spots))]
		switch k := w.r.IntN(40); {
		case k < 26:
			w.save(p)
		case k < 31:
			w.open(p)
		case k < 32:
			w.make(p)
		case k < 34:
			w.d.Fuse(w.r.IntN(5))
		case k < 36:
			w.beside()
		default:
			if w.d.Dead() || w.r.IntN(3) == 0 {
				w.crash()
			}
		}
	}
}

// TestManyCalls holds many calls in any order, with deaths and crashes, of one place and of several.
func TestManyCalls(t *testing.T) {
	for seed := range uint64(60) {
		w := &walker{t: t, r: rand.New(rand.NewPCG(seed, 18)), d: dev.New(8)}
		for k := range 1 + seed%3 {
			p := &spot{at: 1 + 2*int(k)}
			w.spots = append(w.spots, p)
			w.make(p)
		}
		w.walk(800)
		if t.Failed() {
			return
		}
	}
}
