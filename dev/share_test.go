package dev_test

import (
	"bytes"
	"slices"
	"sync"
	"testing"
)

// spoil writes over all of a list, with what is spare behind it.
func spoil[E any](l []E, x E) {
	l = l[:cap(l)]
	for k := range l {
		l[k] = x
	}
}

// TestReadIsACopy holds P0.3: what is done to a sector that was handed out changes neither the device nor another one handed out.
func TestReadIsACopy(t *testing.T) {
	x := newBoth(t, 3, "sectors handed out")
	for _, flushed := range []bool{false, true} {
		x.fill(1)
		if flushed {
			x.flush()
		}
		for i := range 3 {
			first, _ := x.d.Read(i)
			second, _ := x.d.Read(i)
			spoil(first, 0xaa)
			if string(second) != x.p.now(i) {
				t.Errorf("P0.3: Read(%d) changed with another one handed out", i)
			}
			x.same("spoiling a sector")
			_ = append(second, 0xbb)
			_ = append(second[:63], 0xbb)
			x.same("appending to a sector")
		}
	}
	b, _ := x.d.Read(1)
	want := bytes.Clone(b)
	x.write(1, mixed(64, 50))
	x.flush()
	x.write(1, mixed(64, 51))
	x.crash([]bool{true}).write(1, mixed(64, 52))
	x.fuse(0)
	if !bytes.Equal(b, want) {
		t.Error("P0.3: Read(1), handed out before, changed with the device")
	}
}

// TestReadBehindACrash holds the same for sectors that a device and what a crash left of it hand out.
func TestReadBehindACrash(t *testing.T) {
	x := newBoth(t, 2, "sectors handed out around a crash")
	x.fill(1)
	x.flush()
	x.write(0, []byte("nought"))
	for _, keep := range [][]bool{nil, {true}} {
		c := x.crash(keep)
		for i := range 2 {
			elder, _ := x.d.Read(i)
			newer, _ := c.d.Read(i)
			spoil(elder, 0xaa)
			c.same("spoiling a sector of the elder one")
			x.same("spoiling a sector")
			spoil(newer, 0xbb)
			c.same("spoiling a sector")
			x.same("spoiling a sector of the newer one")
		}
	}
}

// TestLooseIsACopy holds P0.3 for what Loose returns.
func TestLooseIsACopy(t *testing.T) {
	x := newBoth(t, 8, "loose sectors handed out")
	for _, i := range []int{6, 1, 3, 7, 2} {
		x.write(i, []byte("loose"))
		first, second := x.d.Loose(), x.d.Loose()
		spoil(first, 5)
		if !slices.Equal(second, x.p.loose()) {
			t.Errorf("P0.3: Loose changed with another one handed out: %v", second)
		}
		x.same("spoiling Loose")
		_ = append(second, 0)
		_ = append(second[:0], 0)
		x.same("appending to Loose")
	}
	l := x.d.Loose()
	want := slices.Clone(l)
	x.write(0, []byte("one more"))
	x.flush()
	x.write(5, []byte("and one"))
	if !slices.Equal(l, want) {
		t.Errorf("P0.3: Loose, handed out before, changed with the device: %v", l)
	}
}

// TestWriteKeepsNothing holds P0.3: the bytes given stay as they are, with what is spare behind them, and are not kept.
func TestWriteKeepsNothing(t *testing.T) {
	x := newBoth(t, 4, "bytes given")
	all := mixed(400, 9)
	want := bytes.Clone(all)
	for _, b := range [][]byte{all[:0], all[:1], all[:10], all[5:64], all[:64], all[64:128], all[:65], all[:200], all} {
		for _, i := range []int{0, 1, 2, 3, 4, -1} {
			x.write(i, b)
		}
	}
	x.write(0, all[:64])
	x.write(1, all[:64])
	x.flush()
	x.write(2, all[10:74])
	x.write(0, all[300:303])
	if !bytes.Equal(all, want) {
		t.Error("P0.3: the bytes given to Write changed")
	}
	spoil(all, 0xcc)
	x.same("spoiling what was given")
	x.flush()
	x.fuse(0)
	spoil(all, 0xdd)
	x.same("spoiling what was given")
	if got := bytes.Count(all, []byte{0xdd}); got != len(all) {
		t.Error("P0.3: the bytes given to Write changed later")
	}
}

// TestWriteOfASector holds that a sector handed out can be given back, also to another sector.
func TestWriteOfASector(t *testing.T) {
	x := newBoth(t, 3, "a sector given back")
	x.fill(1)
	x.flush()
	b, _ := x.d.Read(0)
	x.write(1, b)
	b[0]++
	x.same("changing the sector")
	x.write(0, b)
	x.write(2, b[10:20])
	x.flush()
	spoil(b, 1)
	x.same("spoiling the sector")
}

// TestCrashKeepsNothing holds P0.3 for the list given to Crash: only its own elements count, it stays as it is and is not kept.
func TestCrashKeepsNothing(t *testing.T) {
	x := newBoth(t, 5, "what is to be kept given")
	x.fill(1)
	x.flush()
	x.fill(2)
	all := slices.Repeat([]bool{true}, 9)
	for n := range 10 {
		c := x.crash(all[:n])
		c.hold("Crash with more behind the list")
		if slices.Contains(all, false) {
			t.Fatalf("P0.3: the list given to Crash changed: %t", all)
		}
		spoil(all, false)
		c.same("spoiling what was given")
		x.same("spoiling what was given")
		if slices.Contains(all, true) {
			t.Fatalf("P0.3: the list given to Crash changed later: %t", all)
		}
		spoil(all, true)
	}
}

// TestDevicesStandAlone holds P0.5: what is done to a device changes no other one.
func TestDevicesStandAlone(t *testing.T) {
	var all []*both
	for _, n := range []int{2, 2, 1, 5} {
		all = append(all, newBoth(t, n, "one of several"))
	}
	held := func(call string) {
		for _, other := range all {
			other.same(call + " of another one")
		}
	}
	for k, x := range all {
		x.fill(k)
		held("Write")
		x.flush()
		held("Flush")
		x.write(0, []byte("loose"))
		x.fuse(k)
		held("Fuse")
	}
	newBoth(t, 2, "one made after others")
}

// TestDevicesAtOnce holds the same for devices that are used at the same time, with what a crash left of one of them.
func TestDevicesAtOnce(t *testing.T) {
	elder := newBoth(t, 4, "one of several at once")
	elder.fill(1)
	all := []*both{elder, elder.crash([]bool{true, false, true}), elder.crash(nil)}
	for range 3 {
		all = append(all, newBoth(t, 4, "one of several at once"))
	}
	var group sync.WaitGroup
	for k, x := range all {
		group.Go(func() {
			for n := range 60 {
				x.write(n%5, mixed(n, n*k))
				if n%7 == k {
					x.flush()
				}
			}
			x.fuse(k)
			x.crash([]bool{true}).same("a crash")
		})
	}
	group.Wait()
}
