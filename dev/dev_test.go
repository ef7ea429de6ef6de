package dev_test

import (
	"bytes"
	"math"
	"slices"
	"testing"

	"diapause/api"
	"diapause/dev"
)

// starts returns the first bytes of a sector.
func starts(t *testing.T, d *dev.Dev, i, n int) string {
	t.Helper()
	b, err := d.Read(i)
	if len(b) != 64 || err != api.OK {
		t.Fatalf("P17.1: Read(%d): %d bytes, %d", i, len(b), err)
	}
	return string(b[:n])
}

// exampleDev makes the device of the chapter's example, and holds what the calls return.
func exampleDev(t *testing.T) *dev.Dev {
	t.Helper()
	d := dev.New(4)
	for k, x := range []struct{ got, want api.Errno }{
		{d.Write(0, []byte("abc")), api.OK}, {d.Write(1, make([]byte, 64)), api.OK}, {d.Write(3, []byte("xyz")), api.OK},
		{d.Flush(), api.OK}, {d.Write(4, nil), api.ErrRange}, {d.Write(0, make([]byte, 65)), api.ErrForm},
		{d.Write(0, []byte("q")), api.OK}, {d.Write(2, nil), api.OK}, {d.Write(3, []byte("12")), api.OK}, {d.Write(0, []byte("Q")), api.OK},
	} {
		if x.got != x.want {
			t.Errorf("P17.1: the example: call %d: got %d, want %d", k, x.got, x.want)
		}
	}
	return d
}

// TestExample goes through the chapter's example of Calls.
func TestExample(t *testing.T) {
	d := exampleDev(t)
	if got := d.Loose(); !slices.Equal(got, []int{0, 2, 3}) {
		t.Errorf("P17.1: the example: Loose: got %v", got)
	}
	if got := d.Calls(); got != 8 {
		t.Errorf("P17.1: the example: Calls: got %d", got)
	}
	if got := starts(t, d, 0, 4); got != "Qbc\x00" {
		t.Errorf("P17.1: the example: sector 0 begins with %q", got)
	}
}

func TestNew(t *testing.T) {
	for _, x := range []struct{ n, want int }{
		{math.MinInt, 1}, {math.MinInt + 1, 1}, {-1 << 32, 1}, {-1<<32 + 5, 1}, {-2048, 1}, {-2, 1}, {-1, 1}, {0, 1}, {1, 1}, {2, 2}, {3, 3},
		{63, 63}, {64, 64}, {65, 65}, {1024, 1024}, {2047, 2047}, {2048, 2048}, {2049, 2048}, {4096, 2048}, {65536, 2048},
		{1 << 31, 2048}, {1 << 32, 2048}, {1<<32 + 5, 2048}, {1 << 58, 2048}, {1<<58 + 1, 2048}, {math.MaxInt, 2048},
	} {
		d := dev.New(x.n)
		if got := d.Len(); d == nil || got != x.want {
			t.Fatalf("P17.1: New(%d): %d sectors, want %d", x.n, got, x.want)
		}
		y := &both{t, "a device of any size", d, newPlain(x.want)}
		y.hold("New")
		y.crash([]bool{true}).hold("a crash")
	}
}

// TestNewDevices holds devices of each smaller number of sectors, and the greatest, in all their sectors.
func TestNewDevices(t *testing.T) {
	for _, n := range []int{1, 2, 3, 4, 5, 8, 64} {
		x := newBoth(t, n, "a new device")
		x.fill(n)
		x.flush()
		x.fill(n + 1)
	}
	x := newBoth(t, 2048, "a new device")
	x.fill(1)
	x.flush()
	x.write(2047, []byte("the last"))
	x.write(0, []byte("the first"))
}

// TestRead holds each sector, and all numbers of which there is none, also of a device that is dead.
func TestRead(t *testing.T) {
	for _, n := range []int{1, 2, 7, 2048} {
		x := newBoth(t, n, "Read")
		x.fill(3 * n)
		for _, dead := range []bool{false, true} {
			for _, i := range append(beyond(), n, n+1, n+64, -n) {
				if got, err := x.d.Read(i); (i < 0 || i >= n) && (len(got) != 0 || err != api.ErrRange) {
					t.Errorf("P17.1: Read(%d) of %d sectors, dead: %t: got %x, %d", i, n, dead, got, err)
				}
			}
			for i := range n {
				if got, err := x.d.Read(i); !bytes.Equal(got, mixed(64, 3*n+i)) || err != api.OK {
					t.Errorf("P17.1: Read(%d) of %d sectors, dead: %t: got %x, %d", i, n, dead, got, err)
				}
			}
			x.fuse(0)
		}
	}
}

// TestReadIsThere holds that a Write can be read at once, and that what is not durable yet is read behind the device's death.
func TestReadIsThere(t *testing.T) {
	d := dev.New(2)
	d.Fuse(3)
	d.Write(1, []byte("one"))
	if got := starts(t, d, 1, 4); got != "one\x00" {
		t.Errorf("P17.1: Read behind Write: got %q", got)
	}
	d.Flush()
	d.Write(1, []byte("T"))
	if got := starts(t, d, 1, 4); got != "Tne\x00" || !d.Dead() {
		t.Errorf("P17.1: Read of a dead device: got %q", got)
	}
}

// TestWriteLengths holds a Write of each length, to a sector that is zero, and to one that has 64 other bytes.
func TestWriteLengths(t *testing.T) {
	for n := range 130 {
		x := newBoth(t, 3, "Write of any length")
		for _, i := range []int{0, 1, 2, 1} {
			want := api.OK
			if n > 64 {
				want = api.ErrForm
			}
			if err := x.write(i, mixed(n, n+i)); err != want {
				t.Errorf("P17.1: Write of %d bytes: want %d", n, want)
			}
		}
		x.fill(1000)
		x.flush()
		x.write(1, mixed(n, n+9))
		x.write(2, mixed(n, n+10))
	}
}

// TestWriteKeepsTheRest holds what remains of longer bytes.
func TestWriteKeepsTheRest(t *testing.T) {
	d := dev.New(1)
	for _, x := range []struct{ b, want string }{
		{"abcdefgh", "abcdefgh\x00\x00"}, {"1234", "1234efgh\x00\x00"}, {"", "1234efgh\x00\x00"}, {"\x00", "\x00234efgh\x00\x00"},
		{"xyz", "xyz4efgh\x00\x00"}, {"ABCDEFGHIJ", "ABCDEFGHIJ"}, {"\x00\x00", "\x00\x00CDEFGHIJ"},
	} {
		if err := d.Write(0, []byte(x.b)); err != api.OK {
			t.Errorf("P17.1: Write of %q: %d", x.b, err)
		}
		if got := starts(t, d, 0, 10); got != x.want {
			t.Errorf("P17.1: behind Write of %q: got %q, want %q", x.b, got, x.want)
		}
	}
	d.Write(0, bytes.Repeat([]byte{7}, 64))
	d.Write(0, bytes.Repeat([]byte{8}, 63))
	if got, _ := d.Read(0); !bytes.Equal(got, append(bytes.Repeat([]byte{8}, 63), 7)) {
		t.Errorf("P17.1: behind Write of 63 bytes over 64: got %x", got)
	}
}

// TestWriteNowhere holds that a Write that fails changes nothing, whatever is wrong with it.
func TestWriteNowhere(t *testing.T) {
	for _, n := range []int{1, 2, 5} {
		x := newBoth(t, n, "Write that fails")
		x.fill(4)
		for _, flushed := range []bool{false, true} {
			for _, i := range append(beyond(), n, n+1) {
				for _, length := range []int{0, 1, 64, 65, 200} {
					if x.write(i, mixed(length, i)) != api.ErrRange {
						t.Errorf("P17.1: Write(%d) of %d bytes to %d sectors: want ErrRange", i, length, n)
					}
				}
			}
			for i := range n {
				for _, length := range []int{65, 66, 128, 256, 320, 1 << 16, 1<<16 + 1} {
					if x.write(i, mixed(length, i)) != api.ErrForm {
						t.Errorf("P17.1: Write(%d) of %d bytes: want ErrForm", i, length)
					}
				}
			}
			if !flushed {
				x.flush()
			}
		}
	}
}

// TestWhichErrorFirst holds the order of the errors of Write.
func TestWhichErrorFirst(t *testing.T) {
	for _, x := range []struct {
		dead bool
		i, n int
		want api.Errno
	}{
		{false, 0, 64, api.OK}, {false, 2, 0, api.OK}, {false, 0, 65, api.ErrForm}, {false, 2, 1000, api.ErrForm},
		{false, 3, 64, api.ErrRange}, {false, -1, 0, api.ErrRange}, {false, 3, 65, api.ErrRange}, {false, -1, 65, api.ErrRange},
		{true, 0, 64, api.ErrDown}, {true, 2, 0, api.ErrDown}, {true, 0, 65, api.ErrDown}, {true, 3, 64, api.ErrDown},
		{true, -1, 0, api.ErrDown}, {true, 3, 65, api.ErrDown}, {true, -1, 65, api.ErrDown},
	} {
		d := dev.New(3)
		if x.dead {
			d.Fuse(0)
		}
		if got := d.Write(x.i, make([]byte, x.n)); got != x.want {
			t.Errorf("P17.1: Write(%d) of %d bytes, dead: %t: got %d, want %d", x.i, x.n, x.dead, got, x.want)
		}
	}
}

// TestFlush holds that all that was written before is durable, that nothing behind it is, and that it may have nothing to do.
func TestFlush(t *testing.T) {
	x := newBoth(t, 6, "Flush")
	for range 3 {
		if x.flush() != api.OK {
			t.Error("P17.1: Flush of what was not written: want OK")
		}
	}
	x.write(5, []byte("five"))
	x.write(2, []byte("two"))
	x.flush()
	x.write(2, []byte("T"))
	x.write(3, []byte("three"))
	if c := x.d.Crash(); starts(t, c, 5, 4) != "five" || starts(t, c, 2, 3) != "two" || starts(t, c, 3, 1) != "\x00" {
		t.Error("P17.1: a crash takes what was flushed, or leaves what was not")
	}
	x.flush()
	if c := x.d.Crash(); starts(t, c, 5, 4) != "five" || starts(t, c, 2, 3) != "Two" || starts(t, c, 3, 5) != "three" {
		t.Error("P17.1: a crash takes what was flushed again")
	}
	x.write(0, []byte("zero"))
	x.fuse(0)
	if x.flush() != api.ErrDown {
		t.Error("P17.1: Flush of a dead device: want ErrDown")
	}
	if c := x.d.Crash(); starts(t, c, 0, 1) != "\x00" || !slices.Equal(x.d.Loose(), []int{0}) {
		t.Error("P17.1: Flush of a dead device has an effect")
	}
}

// calling is a table's row: what is done to a device of six sectors, and what is asked then.
type calling struct {
	about string
	call  func(*dev.Dev)
	loose []int
	calls int
}

// callings are told for Loose and for Calls.
func callings() []calling {
	b := []byte("b")
	return []calling{
		{"nothing", func(d *dev.Dev) {}, nil, 0},
		{"Read", func(d *dev.Dev) { d.Read(0); d.Read(9) }, nil, 0},
		{"Len, Loose, Calls, Dead", func(d *dev.Dev) { d.Len(); d.Loose(); d.Calls(); d.Dead() }, nil, 0},
		{"Write", func(d *dev.Dev) { d.Write(0, b) }, []int{0}, 1},
		{"Write of no bytes", func(d *dev.Dev) { d.Write(3, nil); d.Write(1, []byte{}) }, []int{1, 3}, 2},
		{"Write of what is there", func(d *dev.Dev) { d.Write(2, make([]byte, 64)) }, []int{2}, 1},
		{"Write to the last one", func(d *dev.Dev) { d.Write(5, b) }, []int{5}, 1},
		{"Write twice to one", func(d *dev.Dev) { d.Write(4, b); d.Write(4, nil); d.Write(4, b) }, []int{4}, 3},
		{"Write in ascending order", func(d *dev.Dev) { d.Write(1, b); d.Write(2, b); d.Write(5, b) }, []int{1, 2, 5}, 3},
		{"Write in descending order", func(d *dev.Dev) { d.Write(5, b); d.Write(2, b); d.Write(1, b) }, []int{1, 2, 5}, 3},
		{"Write in any order", func(d *dev.Dev) { d.Write(3, b); d.Write(5, b); d.Write(0, b); d.Write(3, b); d.Write(1, b) }, []int{0, 1, 3, 5}, 5},
		{"Write to all", func(d *dev.Dev) {
			for _, i := range []int{4, 0, 5, 1, 3, 2} {
				d.Write(i, b)
			}
		}, []int{0, 1, 2, 3, 4, 5}, 6},
		{"Write to none", func(d *dev.Dev) { d.Write(6, b); d.Write(-1, b) }, nil, 0},
		{"Write of 65 bytes", func(d *dev.Dev) { d.Write(1, make([]byte, 65)) }, nil, 0},
		{"Flush", func(d *dev.Dev) { d.Flush() }, nil, 1},
		{"Flush twice", func(d *dev.Dev) { d.Flush(); d.Flush() }, nil, 2},
		{"Write and Flush", func(d *dev.Dev) { d.Write(2, b); d.Write(3, b); d.Flush() }, nil, 3},
		{"Flush and Write", func(d *dev.Dev) { d.Write(2, b); d.Flush(); d.Write(1, b) }, []int{1}, 3},
		{"Write, Flush and Write to one", func(d *dev.Dev) { d.Write(2, b); d.Flush(); d.Write(2, b) }, []int{2}, 3},
		{"Fuse", func(d *dev.Dev) { d.Write(2, b); d.Fuse(7) }, []int{2}, 1},
		{"Fuse cancelled", func(d *dev.Dev) { d.Fuse(7); d.Write(2, b); d.Fuse(-1) }, []int{2}, 1},
		{"Crash", func(d *dev.Dev) { d.Write(2, b); d.Crash(); d.Crash(true) }, []int{2}, 1},
		{"Write to a dead one", func(d *dev.Dev) { d.Fuse(0); d.Write(2, b); d.Write(2, b) }, nil, 0},
		{"Flush of a dead one", func(d *dev.Dev) { d.Write(2, b); d.Fuse(0); d.Flush() }, []int{2}, 1},
		{"death", func(d *dev.Dev) { d.Fuse(2); d.Write(4, b); d.Write(2, b); d.Write(1, b); d.Flush() }, []int{2, 4}, 2},
		{"death by Flush", func(d *dev.Dev) { d.Fuse(2); d.Write(4, b); d.Flush(); d.Write(1, b); d.Flush() }, nil, 2},
	}
}

func TestLoose(t *testing.T) {
	for _, x := range callings() {
		d := dev.New(6)
		x.call(d)
		for range 2 {
			if got := d.Loose(); !slices.Equal(got, x.loose) {
				t.Errorf("P17.1: Loose after %s: got %v, want %v", x.about, got, x.loose)
			}
		}
	}
}

// TestLooseOfMany holds that many sectors stand in order, whatever the order was in which they were written.
func TestLooseOfMany(t *testing.T) {
	for _, step := range []int{1, 2047, 3, 1025, 77} {
		d := dev.New(2048)
		var want []int
		for k := range 1500 {
			d.Write(k*step%2048, nil)
			want = append(want, k*step%2048)
		}
		slices.Sort(want)
		if got := d.Loose(); !slices.Equal(got, want) {
			t.Errorf("P17.1: Loose of 1500 sectors, each %d behind the one before: got %v", step, got)
		}
	}
}

func TestCalls(t *testing.T) {
	for _, x := range callings() {
		d := dev.New(6)
		x.call(d)
		for range 2 {
			if got := d.Calls(); got != x.calls {
				t.Errorf("P17.1: Calls after %s: got %d, want %d", x.about, got, x.calls)
			}
		}
	}
	d := dev.New(1)
	for k := range 70000 {
		if got := d.Calls(); got != k {
			t.Fatalf("P17.1: Calls after %d calls: got %d", k, got)
		}
		if k%3 == 0 {
			d.Flush()
		} else {
			d.Write(0, nil)
		}
	}
}
