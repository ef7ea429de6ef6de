package snap_test

import (
	"bytes"
	"slices"
	"sync"
	"testing"

	"diapause/api"
	"diapause/run"
	"diapause/snap"
)

// TestShare holds P0.3: nothing of what is handed in is changed or kept, and nothing that comes back is shared.
func TestShare(t *testing.T) {
	for name, c := range machines(t) {
		before := told(c)
		b, again := snap.Save(c), snap.Save(c)
		want := slices.Clone(b)
		for k := range b[:cap(b)] {
			b[:cap(b)][k] = 99
		}
		if told(c) != before || !bytes.Equal(again, want) || !bytes.Equal(snap.Save(c), want) {
			t.Fatalf("P0.3: %s: a change of what Save returned shows", name)
		}
		m := world()
		given := append(slices.Clone(want), 1, 2, 3, 4, 5)
		var handed [][]byte
		d, err := snap.Load(m, given[:len(want)], func(i int) []byte {
			// With something behind it, as it may be a piece of something longer.
			page := append(c.Inst().Mem().Page(i), 7, 8, 9)
			handed = append(handed, page)
			return page[:256]
		})
		if err != api.OK || told(d) != before {
			t.Fatalf("P16.1: %s: Load: %d", name, err)
		}
		for k := range 50 {
			if k%5 == 0 {
				d.Inst().Mem().Store(int64(k), 8, 1<<60)
			}
			move(d)
		}
		if !bytes.Equal(given, append(slices.Clone(want), 1, 2, 3, 4, 5)) {
			t.Fatalf("P0.3: %s: Load, or what comes behind it, changes its argument", name)
		}
		for i, page := range handed {
			if !bytes.Equal(page, append(c.Inst().Mem().Page(i), 7, 8, 9)) {
				t.Fatalf("P0.3: %s: Load, or what comes behind it, changes the page %d", name, i)
			}
		}
		after := told(d)
		for _, l := range append(handed, given) {
			for k := range l {
				l[k] = 77
			}
		}
		for k := range m.Codes {
			m.Codes[k].Body[0] = api.Instr{}
		}
		m.Types[2].Params[0] = api.I64
		if told(d) != after || told(c) != before {
			t.Fatalf("P0.3: %s: a change of what Load was given shows", name)
		}
		hold(t, world(), d, name)
	}
}

// TestMachinesApart holds that a machine and the one that was loaded do not see each other.
func TestMachinesApart(t *testing.T) {
	c := begun(t, world(), 9, "asks", i32(3))
	b := snap.Save(c)
	before := told(c)
	d, err := snap.Load(world(), b, pages(c))
	if err != api.OK || d.Inst() == c.Inst() {
		t.Fatalf("P16.1: Load: %d", err)
	}
	d.Go(100)
	d.Inst().Mem().Store(0, 8, 5)
	d.Inst().Space().SetGlobal(0, i32(5))
	d.Inst().Space().SetElems(0, []int{5})
	if told(c) != before || !bytes.Equal(snap.Save(c), b) {
		t.Errorf("P0.3: what the loaded machine does shows in the other one")
	}
}

// TestAtOnce holds that many loads at the same time do not disturb each other.
func TestAtOnce(t *testing.T) {
	m := world()
	c := begun(t, m, 13, "blocks", i64(3), i32(-1))
	b := snap.Save(c)
	var group sync.WaitGroup
	loaded := make([]*run.Machine, 8)
	for k := range loaded {
		group.Go(func() {
			for range 20 {
				loaded[k], _ = snap.Load(m, b, zeros)
				loaded[k].Inst().Mem().SetPage(0, c.Inst().Mem().Page(0))
			}
		})
	}
	group.Wait()
	for _, d := range loaded {
		if told(d) != told(c) {
			t.Errorf("P0.5: got %s, want %s", told(d), told(c))
		}
	}
}
