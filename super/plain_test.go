package super_test

import (
	"bytes"
	"math"
	"slices"
	"testing"

	"diapause/api"
	"diapause/dev"
	"diapause/super"
)

// mixed makes n bytes without a short period, other ones for each seed.
func mixed(n, seed int) []byte {
	b := make([]byte, n)
	x := uint32(seed)
	for i := range b {
		x = x*1664525 + 1013904223
		b[i] = byte(x >> 24)
	}
	return b
}

// text makes the text of a turn, of some length that there may be.
func text(turn int) string {
	return string(mixed((7*turn+3)%41, turn))
}

// sectors returns all bytes of a device.
func sectors(t *testing.T, d *dev.Dev) []string {
	t.Helper()
	var l []string
	for i := range d.Len() {
		b, err := d.Read(i)
		if err != api.OK {
			t.Fatalf("P17.1: Read(%d): %d", i, err)
		}
		l = append(l, string(b))
	}
	return l
}

// fill writes bytes that differ from place to place into all sectors, and makes them durable.
func fill(t *testing.T, d *dev.Dev, seed int) {
	t.Helper()
	for i := range d.Len() {
		put(t, d, i, mixed(64, seed+i))
	}
}

// put writes to a sector, and makes it durable.
func put(t *testing.T, d *dev.Dev, i int, b []byte) {
	t.Helper()
	if d.Write(i, b) != api.OK || d.Flush() != api.OK {
		t.Fatalf("P17.1: Write of %d bytes to %d, or Flush", len(b), i)
	}
}

// has holds the Text and the Turn of a Super.
func has(t *testing.T, s *super.Super, about, text string, turn int64) {
	t.Helper()
	if s == nil {
		t.Fatalf("P18.1: %s: no Super", about)
	}
	if got := s.Text(); string(got) != text {
		t.Errorf("P18.1: %s: Text: got %q, want %q", about, got, text)
	}
	if got := s.Turn(); got != turn {
		t.Errorf("P18.1: %s: Turn: got %d, want %d", about, got, turn)
	}
}

// makes returns the Super that Make makes, which must have the text with the turn 1, all of it durable.
func makes(t *testing.T, d *dev.Dev, at int, about, text string) *super.Super {
	t.Helper()
	s, err := super.Make(d, at, []byte(text))
	if err != api.OK {
		t.Fatalf("P18.1: %s: Make of %q at %d: %d", about, text, at, err)
	}
	has(t, s, about+": Make", text, 1)
	durable(t, d, at, about+": Make", text, 1)
	return s
}

// saves lets the Super save a text, which must have this turn then, all of it durable.
func saves(t *testing.T, s *super.Super, d *dev.Dev, at int, about, text string, turn int64) {
	t.Helper()
	if err := s.Save([]byte(text)); err != api.OK {
		t.Errorf("P18.1: %s: Save of %q as %d: %d", about, text, turn, err)
	}
	has(t, s, about+": Save", text, turn)
	durable(t, d, at, about+": Save", text, turn)
}

// durable holds that the device, and what a crash leaves of it, have the text, and that nothing is loose.
func durable(t *testing.T, d *dev.Dev, at int, about, text string, turn int64) {
	t.Helper()
	if l := d.Loose(); len(l) != 0 {
		t.Errorf("P18.1: %s: Loose: %v", about, l)
	}
	opens(t, d, at, about, text, turn)
	opens(t, d.Crash(), at, about+", crashed", text, turn)
}

// opens returns the Super that Open finds, which must have the text with its turn, and holds that Open leaves the device as it is.
func opens(t *testing.T, d *dev.Dev, at int, about, text string, turn int64) *super.Super {
	t.Helper()
	before, calls := sectors(t, d), d.Calls()
	s, err := super.Open(d, at)
	if err != api.OK {
		t.Fatalf("P18.1: %s: Open at %d: got %d, want %q as %d", about, at, err, text, turn)
	}
	has(t, s, about+": Open", text, turn)
	if !slices.Equal(sectors(t, d), before) || d.Calls() != calls {
		t.Errorf("P18.1: %s: Open wrote to the device", about)
	}
	return s
}

// lost holds that Open finds nothing in two sectors.
func lost(t *testing.T, d *dev.Dev, at int, about string) {
	t.Helper()
	if s, err := super.Open(d, at); s != nil || err != api.ErrCorrupt {
		t.Errorf("P18.1: %s: Open at %d: got %t, %d, want ErrCorrupt", about, at, s != nil, err)
	}
}

// still calls something that must fail, and holds that it leaves the device as it is.
func still(t *testing.T, d *dev.Dev, about string, want api.Errno, call func() (*super.Super, api.Errno)) {
	t.Helper()
	before, loose, calls := sectors(t, d), d.Loose(), d.Calls()
	if s, err := call(); s != nil || err != want {
		t.Errorf("P18.1: %s: got %t, %d, want %d", about, s != nil, err, want)
	}
	if !slices.Equal(sectors(t, d), before) || !slices.Equal(d.Loose(), loose) || d.Calls() != calls {
		t.Errorf("P18.1: %s: wrote to the device", about)
	}
}

// beyond are places at which a device of n sectors has not two.
func beyond(n int) []int {
	return []int{math.MinInt, math.MinInt + 1, -1 << 32, -1<<32 + 1, -1 << 31, -2048, -n, -2, -1, n - 1, n, n + 1, n + 2048,
		1<<31 - 1, 1 << 31, 1<<32 - 1, 1 << 32, 1<<32 + 1, 1 << 58, 1<<62 - 1, 1 << 62, math.MaxInt - 1, math.MaxInt}
}

// sizes are numbers of sectors that a device may have.
func sizes() []int {
	return []int{1, 2, 3, 4, 5, 64, 2047, 2048}
}

// altered returns a sector of which one bit is another one.
func altered(b string, bit int) []byte {
	x := []byte(b)
	x[bit/8] ^= 1 << (bit % 8)
	return x
}

// tooLong are texts of more than 40 bytes.
func tooLong() [][]byte {
	return [][]byte{make([]byte, 41), mixed(42, 5), bytes.Repeat([]byte("x"), 63), mixed(64, 6), mixed(65, 7), mixed(100, 8), mixed(296, 9), mixed(1<<16+3, 10)}
}
