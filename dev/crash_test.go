package dev_test

import (
	"slices"
	"testing"

	"diapause/api"
	"diapause/dev"
)

// TestCrashExample goes through the chapter's example of Crash.
func TestCrashExample(t *testing.T) {
	d := exampleDev(t)
	for _, x := range []struct {
		keep        []bool
		first, last string
	}{
		{nil, "abc", "xyz"}, {[]bool{true}, "Qbc", "xyz"}, {[]bool{false, true, true}, "abc", "12z"},
		{[]bool{}, "abc", "xyz"}, {[]bool{false}, "abc", "xyz"}, {[]bool{false, true}, "abc", "xyz"}, {[]bool{true, false, true}, "Qbc", "12z"},
		{[]bool{false, false, true}, "abc", "12z"}, {[]bool{false, false, false, true}, "abc", "xyz"}, {[]bool{true, true, true, true, true}, "Qbc", "12z"},
	} {
		c := d.Crash(x.keep...)
		if first, last := starts(t, c, 0, 3), starts(t, c, 3, 3); first != x.first || last != x.last {
			t.Errorf("P17.2: the example: Crash(%t): got %q and %q, want %q and %q", x.keep, first, last, x.first, x.last)
		}
		if c.Len() != 4 || c.Dead() || c.Calls() != 0 || len(c.Loose()) != 0 {
			t.Errorf("P17.2: the example: Crash(%t): Len %d, Dead %t, Calls %d, Loose %v", x.keep, c.Len(), c.Dead(), c.Calls(), c.Loose())
		}
	}
}

// keeps are all lists of up to n elements.
func keeps(n int) [][]bool {
	all := [][]bool{nil}
	for from := 0; n > 0; n-- {
		for _, l := range all[from:] {
			all = append(all, append(slices.Clone(l), false), append(slices.Clone(l), true))
		}
		from = (len(all) - 1) / 2
	}
	return all
}

// crashings are devices of all sorts, by how they came about.
func crashings(t *testing.T) []*both {
	var l []*both
	add := func(about string, n int, call func(x *both)) {
		x := newBoth(t, n, about)
		call(x)
		l = append(l, x)
	}
	add("a new device", 3, func(x *both) {})
	add("one that was never flushed", 5, func(x *both) {
		x.write(4, []byte("four"))
		x.write(1, []byte("one"))
		x.write(2, nil)
		x.write(4, []byte("F"))
	})
	add("one that has no loose sector", 3, func(x *both) {
		x.fill(1)
		x.flush()
	})
	add("one that was written behind a Flush", 6, func(x *both) {
		x.fill(1)
		x.flush()
		x.write(5, []byte("five"))
		x.write(0, mixed(64, 70))
		x.write(3, nil)
		x.write(5, []byte("F"))
	})
	add("one whose sectors are all loose", 4, func(x *both) {
		x.fill(1)
		x.flush()
		x.fill(2)
		x.fill(3)
	})
	add("one on which a Fuse is pending", 4, func(x *both) {
		x.fill(1)
		x.fuse(5)
		x.flush()
		x.write(1, []byte("one"))
		x.write(3, []byte("three"))
	})
	add("one on which a Fuse of 1 is pending", 2, func(x *both) {
		x.write(1, []byte("one"))
		x.fuse(1)
	})
	add("a dead device", 4, func(x *both) {
		x.fill(1)
		x.flush()
		x.fuse(2)
		x.write(2, []byte("two"))
		x.write(0, []byte("nought"))
		x.write(1, []byte("one"))
		x.flush()
	})
	add("a device that died by a Flush", 3, func(x *both) {
		x.fuse(2)
		x.write(2, []byte("two"))
		x.flush()
		x.write(1, []byte("one"))
	})
	add("a device that was dead from its start on", 2, func(x *both) {
		x.fuse(0)
		x.write(1, []byte("one"))
	})
	add("a device of one sector", 1, func(x *both) {
		x.write(0, []byte("nought"))
		x.flush()
		x.write(0, []byte("N"))
	})
	return l
}

// TestCrash holds what a crash leaves of each device, for each list of what is kept, shorter and longer than Loose.
func TestCrash(t *testing.T) {
	for _, x := range crashings(t) {
		for _, keep := range keeps(6) {
			c := x.crash(keep)
			c.hold("Crash")
			if c.d.Dead() || c.d.Calls() != 0 || len(c.d.Loose()) != 0 || c.d.Len() != x.d.Len() {
				t.Errorf("P17.2: %s: Crash(%t): Dead %t, Calls %d, Loose %v, Len %d", x.about, keep, c.d.Dead(), c.d.Calls(), c.d.Loose(), c.d.Len())
			}
			x.hold("Crash")
		}
	}
}

// TestCrashLives holds that a device behind a crash does all that a new one does, for as long as one likes.
func TestCrashLives(t *testing.T) {
	for _, x := range crashings(t) {
		for _, keep := range [][]bool{nil, {true}, {false, true}, {true, true, true, true, true, true, true}} {
			c := x.crash(keep)
			c.same("Crash")
			for k := range 9 {
				c.write(k%len(c.p.durable), mixed(k, k))
				c.write(len(c.p.durable), nil)
			}
			c.flush()
			c.write(0, []byte("behind the Flush"))
			c.fuse(2)
			c.write(len(c.p.durable)-1, []byte("one more"))
			c.flush()
			c.write(0, []byte("too late"))
		}
	}
}

// TestNoFuseIsPending holds that a crash takes the fuse away, however long it was.
func TestNoFuseIsPending(t *testing.T) {
	for n := range 12 {
		d := dev.New(2)
		d.Fuse(n)
		d.Write(1, []byte("one"))
		c := d.Crash(true)
		for range 20 {
			if c.Write(0, []byte("more")) != api.OK || c.Flush() != api.OK || c.Dead() {
				t.Fatalf("P17.2: Crash behind Fuse(%d): dead behind %d calls", n, c.Calls())
			}
		}
	}
}

// TestCrashAgain holds that a crash leaves all of it durable, what it kept, too.
func TestCrashAgain(t *testing.T) {
	for _, x := range crashings(t) {
		for _, keep := range keeps(3) {
			c := x.crash(keep)
			again := &both{t, c.about + " twice", c.d.Crash(), c.p}
			again.same("Crash of what a crash left")
			c.write(0, []byte("behind the crash"))
			c.write(0, []byte("B"))
			again = &both{t, c.about + " twice", c.d.Crash(), x.p.crash(keep)}
			again.same("Crash of what was written behind a crash")
		}
	}
}

// TestElderAndNewer holds that neither of a device and what a crash leaves of it changes when the other one is written.
func TestElderAndNewer(t *testing.T) {
	for _, x := range crashings(t) {
		all := []*both{x, x.crash(nil), x.crash([]bool{true}), x.crash([]bool{true, true, true, true, true, true})}
		all = append(all, all[2].crash(nil))
		held := func(call string) {
			for _, y := range all {
				y.same(call + " of an elder or a newer one")
			}
		}
		for k, y := range all {
			for i := range y.d.Len() {
				y.write(i, mixed(64, 100*k+i))
				held("Write")
			}
			y.flush()
			held("Flush")
			y.write(0, []byte("behind the Flush"))
			held("Write behind Flush")
			y.fuse(1)
			held("Fuse")
			y.write(0, []byte("the last one"))
			held("death")
		}
	}
}

// TestCrashOfMany holds a crash of the greatest device, which keeps every third of its loose sectors.
func TestCrashOfMany(t *testing.T) {
	x := newBoth(t, 2048, "the greatest device")
	x.fill(1)
	x.flush()
	for k := range 300 {
		i := k * 1025 % 2048
		b := mixed(k%65, 5000+k)
		x.d.Write(i, b)
		x.p.write(i, b)
	}
	var keep []bool
	for k := range 4000 {
		keep = append(keep, k%3 == 0)
	}
	for _, n := range []int{0, 1, 2, 298, 299, 300, 301, 2048, 4000} {
		x.crash(keep[:n]).hold("Crash")
	}
	x.hold("Crash")
}
