package snap_test

import (
	"bytes"
	"fmt"
	"math/rand/v2"
	"slices"
	"testing"

	"diapause/api"
	"diapause/run"
	"diapause/snap"
)

// few are machines of a small module, so that many bytes can be tried; there are memory, table and globals.
func few(t *testing.T) (api.Module, map[string]*run.Machine) {
	m := bare(fn{"f", 2, "41,5 02,2 42,300 20 10,4 0b a7 6a", []int{api.I64}}, fn{"g", 3, "20 20,1 10,0 ac 7c", nil})
	m.Mem = api.Limits{Has: true, Min: 1, Max: 3}
	m.Table = api.Limits{Has: true, Min: 2, Max: -1}
	m.Globals = []api.Global{{Mut: true, Init: i32(-70)}, {Init: i64(1 << 40)}}
	m.Elems = []api.Elem{{Off: 1, Funcs: []int{own}}}
	all := map[string]*run.Machine{"nothing begun": made(t, m)}
	for _, steps := range []int{0, 4, 5, 7, 8, 11, 99} {
		all[fmt.Sprint(steps, " steps")] = begun(t, m, steps, "f", i32(-200))
	}
	for _, c := range all {
		c.Set(c.State(), c.Out(), c.Meter()+300i, c.Calls()+5, 200+70000i)
	}
	return m, all
}

// tried loads what may be an encoding: it is none, or the machine is one that has it, and that goes on to an end.
func tried(t *testing.T, m api.Module, b []byte, about string) api.Errno {
	t.Helper()
	asked := 0
	d, err := snap.Load(m, b, func(i int) []byte {
		if i != asked {
			t.Errorf("P16.1: %s: page was called for %d after %d calls", about, i, asked)
		}
		asked++
		return make([]byte, 256)
	})
	if asked > 16 || err != api.OK && (err != api.ErrCorrupt || d != nil || asked > 0) {
		t.Errorf("P16.1: %s: Load of %x: %d; page was called %d times", about, b, err, asked)
	}
	if err != api.OK {
		return err
	}
	if !bytes.Equal(snap.Save(d), b) || asked != d.Inst().Mem().Pages() || len(d.Inst().Mem().Dirty()) > 0 {
		t.Errorf("P16.1: %s: Load of %x: Save of it is %x", about, b, snap.Save(d))
	}
	goesOn(t, d, about)
	return err
}

// goesOn holds D1 for a machine that was loaded: each of its steps is one.
func goesOn(t *testing.T, d *run.Machine, about string) {
	t.Helper()
	was := d.Out().Kind
	for range 60 {
		move(d)
		switch kind := d.Out().Kind; kind {
		case api.More, api.Asks, api.Done, api.Trapped, api.Exhausted:
		default:
			if kind != was {
				t.Fatalf("D1: %s: what was loaded stands still: %s", about, told(d))
			}
		}
	}
	if d.Inst().Mem().Pages() > 16 || len(d.State().Vals) > api.MaxStack || len(d.State().Frames) > api.MaxDepth {
		t.Errorf("D1: %s: beyond the limits: %s", about, told(d))
	}
}

// TestCut is the chapter's example: no proper prefix of an encoding is one, nor is an encoding with a byte behind it.
func TestCut(t *testing.T) {
	for name, c := range machines(t) {
		b := snap.Save(c)
		for cut := range b {
			refuse(t, world(), b[:cut], fmt.Sprint(name, ", of which ", cut, " bytes are left"))
		}
		for n := range 256 {
			refuse(t, world(), append(slices.Clone(b), byte(n)), fmt.Sprint(name, ", with ", n, " behind it"))
		}
		refuse(t, world(), append(slices.Clone(b), b...), name+", twice")
	}
}

// TestByte tries every byte of encodings as another one.
func TestByte(t *testing.T) {
	m, all := few(t)
	seen := map[api.Errno]int{}
	for name, c := range all {
		b := snap.Save(c)
		for k := range b {
			for n := range 256 {
				if byte(n) != b[k] {
					x := slices.Clone(b)
					x[k] = byte(n)
					seen[tried(t, m, x, fmt.Sprint(name, ", with ", n, " at ", k))]++
				}
			}
		}
	}
	if seen[api.OK] < 1000 || seen[api.ErrCorrupt] < 1000 {
		t.Errorf("the test itself: %v", seen)
	}
}

// TestFaults tries encodings with several bytes that are other ones, missing, or new.
func TestFaults(t *testing.T) {
	r := rand.New(rand.NewPCG(16, 1))
	m, all := few(t)
	for name, c := range all {
		b := snap.Save(c)
		for k := range b {
			tried(t, m, slices.Delete(slices.Clone(b), k, k+1), fmt.Sprint(name, ", without the byte ", k))
			for _, n := range []byte{0, 1, 2, 0x7f, 0x80, 0xff} {
				tried(t, m, slices.Insert(slices.Clone(b), k, n), fmt.Sprint(name, ", with ", n, " ahead of ", k))
			}
		}
		// A great number that is the length of a list must not take long.
		for k := range b {
			tried(t, m, slices.Insert(slices.Clone(b), k, 0xff, 0xff, 0xff, 0xff, 0x0f), fmt.Sprint(name, ", with a great number ahead of ", k))
			tried(t, m, slices.Replace(slices.Clone(b), k, k+1, 0xff, 0xff, 0xff, 0xff, 0x0f), fmt.Sprint(name, ", with a great number at ", k))
		}
		for range 2000 {
			x := slices.Clone(b)
			for range 2 + r.IntN(3) {
				x[r.IntN(len(x))] = byte(r.IntN(256) >> r.IntN(8))
			}
			tried(t, m, x, name+", with other bytes")
		}
	}
	for range 3000 {
		x := make([]byte, r.IntN(40))
		for k := range x {
			x[k] = byte(r.IntN(256) >> r.IntN(9))
		}
		tried(t, m, x, "any bytes")
	}
	huge := bytes.Repeat([]byte{0x80}, 1<<20)
	refuse(t, m, huge, "a million bytes")
	refuse(t, m, make([]byte, 1<<20), "a million zeros")
	refuse(t, m, bytes.Repeat([]byte{0xff, 0xff, 0xff, 0xff, 0x0f}, 1000), "great numbers")
}

// TestLong holds that numbers are written in one way only: each of less than 128 is tried with a byte more.
func TestLong(t *testing.T) {
	m, all := few(t)
	for name, c := range all {
		b := snap.Save(c)
		for k := range b {
			if b[k] < 0x80 {
				x := slices.Replace(slices.Clone(b), k, k+1, b[k]|0x80, 0)
				tried(t, m, x, fmt.Sprint(name, ", with a longer number at ", k))
			}
		}
	}
}
