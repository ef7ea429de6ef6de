package mem_test

import (
	"bytes"
	"slices"
	"sync"
	"testing"

	"diapause/api"
	"diapause/mem"
)

// spoil writes over all of a list, with what is spare behind it.
func spoil[E any](l []E, x E) {
	l = l[:cap(l)]
	for k := range l {
		l[k] = x
	}
}

// TestPageIsACopy holds P0.3: what is done to a page that was handed out changes neither the memory nor another page handed out.
func TestPageIsACopy(t *testing.T) {
	d := newBoth(t, api.Limits{Has: true, Min: 3, Max: -1}, "pages handed out")
	d.fill()
	d.clean()
	for i := range 3 {
		first, second := d.m.Page(i), d.m.Page(i)
		spoil(first, 0xaa)
		if !bytes.Equal(second, d.p.page(i)) {
			t.Errorf("P0.3: Page(%d) changed with another one handed out", i)
		}
		d.same("spoiling a page")
		_ = append(second, 0xbb)
		_ = append(second[:255], 0xbb)
		d.same("appending to a page")
	}
	page := d.m.Page(1)
	want := bytes.Clone(page)
	d.setPage(1, mixed(50))
	d.store(300, 8, 1)
	d.grow(2)
	d.clean()
	if !bytes.Equal(page, want) {
		t.Error("P0.3: Page(1), handed out before, changed with the memory")
	}
}

// TestDirtyIsACopy holds P0.3 for what Dirty returns.
func TestDirtyIsACopy(t *testing.T) {
	d := newBoth(t, api.Limits{Has: true, Min: 8, Max: -1}, "dirty pages handed out")
	for _, i := range []int{6, 1, 3, 7, 2} {
		d.store(int64(256*i), 1, 9)
		first, second := d.m.Dirty(), d.m.Dirty()
		spoil(first, 5)
		if !slices.Equal(second, d.p.dirty()) {
			t.Errorf("P0.3: Dirty changed with another one handed out: %v", second)
		}
		d.same("spoiling Dirty")
		_ = append(second, 0)
		_ = append(second[:0], 0)
		d.same("appending to Dirty")
	}
	l := d.m.Dirty()
	want := slices.Clone(l)
	d.store(0, 8, 1)
	d.grow(2)
	d.clean()
	d.store(1280, 4, 1)
	if !slices.Equal(l, want) {
		t.Errorf("P0.3: Dirty, handed out before, changed with the memory: %v", l)
	}
}

// TestSetPageKeepsNothing holds P0.3: the bytes given stay as they are, with what is spare behind them, and are not kept.
func TestSetPageKeepsNothing(t *testing.T) {
	d := newBoth(t, api.Limits{Has: true, Min: 3, Max: -1}, "a page given")
	d.fill()
	all := slices.Concat(mixed(20), mixed(21), mixed(22))
	want := bytes.Clone(all)
	for _, b := range [][]byte{all[:256], all[256:512], all[512:], all[:255], all[:257], all[:0]} {
		for _, i := range []int{0, 1, 2, 3, -1} {
			d.setPage(i, b)
		}
	}
	d.setPage(0, all[:256])
	d.setPage(1, all[:256])
	d.setPage(2, all[256:512])
	d.store(250, 8, 0x0102030405060708)
	d.store(508, 8, 0x0102030405060708)
	d.grow(1)
	d.clean()
	if !bytes.Equal(all, want) {
		t.Error("P0.3: the bytes given to SetPage changed")
	}
	spoil(all, 0xcc)
	d.same("spoiling what was given")
}

// TestSetPageToAPage holds that a page handed out can be given back, also to another page.
func TestSetPageToAPage(t *testing.T) {
	d := newBoth(t, two, "a page given back")
	d.fill()
	d.clean()
	page := d.m.Page(0)
	d.setPage(1, page)
	page[0]++
	d.same("changing the page")
	d.setPage(0, page)
	d.setPage(0, d.m.Page(1))
}

// TestMemoriesStandAlone holds P0.5: what is done to a memory changes no other one, of the same limits or of others.
func TestMemoriesStandAlone(t *testing.T) {
	var all []*both
	for _, l := range []api.Limits{two, two, {Has: true, Max: -1}, {Has: true, Min: 16}} {
		all = append(all, newBoth(t, l, "one of several"))
	}
	for k, d := range all {
		d.fill()
		d.store(int64(k), 8, 0x1122334455667788)
		d.grow(1)
		for _, other := range all {
			other.same("a call of another memory")
		}
		d.clean()
		for _, other := range all {
			other.same("Clean of another memory")
		}
	}
	for _, l := range []api.Limits{two, {Has: true, Min: 16, Max: -1}} {
		newBoth(t, l, "one made after others")
	}
}

// TestMemoriesAtOnce holds the same for memories that are used at the same time.
func TestMemoriesAtOnce(t *testing.T) {
	var group sync.WaitGroup
	for k := range 4 {
		group.Go(func() {
			d := &both{t, "one of several at once", mem.New(two), newPlain(two)}
			for at := range int64(520) {
				d.store(at, 8, uint64(at)*uint64(k+1))
				d.load(at, 4)
			}
			d.grow(int64(k))
			d.clean()
		})
	}
	group.Wait()
}
