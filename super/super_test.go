package super_test

import (
	"math/bits"
	"strconv"
	"strings"
	"testing"

	"diapause/api"
	"diapause/dev"
	"diapause/super"
)

// TestExample goes through the chapter's example.
func TestExample(t *testing.T) {
	d := dev.New(5)
	if s, err := super.Open(d, 1); s != nil || err != api.ErrCorrupt {
		t.Errorf("P18.1: the example: Open at 1: %d", err)
	}
	if s, err := super.Open(d, 4); s != nil || err != api.ErrRange {
		t.Errorf("P18.1: the example: Open at 4: %d", err)
	}
	s, err := super.Make(d, 1, []byte("one"))
	if err != api.OK || s.Save([]byte("two")) != api.OK {
		t.Fatalf("P18.1: the example: Make: %d, or Save", err)
	}
	s, err = super.Open(d.Crash(), 1)
	if err != api.OK || string(s.Text()) != "two" || s.Turn() != 2 {
		t.Errorf("P18.1: the example: Open behind a crash: %d", err)
	}
}

// TestLengths holds Make and Save of each length, behind a longer text and behind a shorter one.
func TestLengths(t *testing.T) {
	for n := range 41 {
		for _, b := range [][]byte{mixed(n, n), make([]byte, n), []byte(strings.Repeat("\xff", n))} {
			d := dev.New(3)
			fill(t, d, n)
			s := makes(t, d, 1, "any length", string(b))
			saves(t, s, d, 1, "any length", "", 2)
			saves(t, s, d, 1, "any length", string(b), 3)
			saves(t, s, d, 1, "any length", string(mixed(40, 3)), 4)
			saves(t, s, d, 1, "any length", string(b), 5)
			saves(t, s, d, 1, "any length", string(b), 6)
			makes(t, d, 1, "any length, anew", string(b))
		}
	}
}

// TestNoBytes holds Make and Save of nil, which is the empty text.
func TestNoBytes(t *testing.T) {
	d := dev.New(2)
	s, err := super.Make(d, 0, nil)
	if err != api.OK {
		t.Fatalf("P18.1: Make of nil: %d", err)
	}
	has(t, s, "Make of nil", "", 1)
	durable(t, d, 0, "Make of nil", "", 1)
	saves(t, s, d, 0, "behind Make of nil", "two", 2)
	if err := s.Save(nil); err != api.OK {
		t.Errorf("P18.1: Save of nil: %d", err)
	}
	has(t, s, "Save of nil", "", 3)
	durable(t, d, 0, "Save of nil", "", 3)
}

// TestPlaces holds each place of devices of several sizes, and that the sectors beside the two stay as they are.
func TestPlaces(t *testing.T) {
	for _, n := range []int{2, 3, 4, 5, 9} {
		for at := range n - 1 {
			d := dev.New(n)
			fill(t, d, 50)
			before := sectors(t, d)
			s := makes(t, d, at, "each place", "one")
			for turn := range 5 {
				saves(t, s, d, at, "each place", text(turn), int64(turn+2))
			}
			opens(t, d, at, "each place", text(4), 6)
			for i, b := range sectors(t, d) {
				if beside := i < at || i > at+1; beside && b != before[i] {
					t.Errorf("P18.1: at %d of %d sectors: the sector %d changed", at, n, i)
				}
			}
		}
	}
}

// TestLastPlace holds the first and the last place of all devices that have two sectors.
func TestLastPlace(t *testing.T) {
	for _, n := range sizes()[1:] {
		for _, at := range []int{0, n - 2} {
			d := dev.New(n)
			lost(t, d, at, "a new device")
			s := makes(t, d, at, "the first and the last place", "one")
			saves(t, s, d, at, "the first and the last place", "two", 2)
		}
	}
}

// TestNoPlace holds all places that have not two sectors, also of a device that has a text, and of one that is dead.
func TestNoPlace(t *testing.T) {
	for _, n := range sizes() {
		d := dev.New(n)
		if n > 1 {
			makes(t, d, 0, "the first place", "one")
			makes(t, d, n-2, "the last place", "two")
		}
		for range 2 {
			for _, at := range beyond(n) {
				about := " at " + strconv.Itoa(at) + " of " + strconv.Itoa(n) + " sectors"
				still(t, d, "Open"+about, api.ErrRange, func() (*super.Super, api.Errno) { return super.Open(d, at) })
				for _, b := range []string{"", "three", strings.Repeat("x", 40)} {
					still(t, d, "Make"+about, api.ErrRange, func() (*super.Super, api.Errno) { return super.Make(d, at, []byte(b)) })
				}
				for _, b := range tooLong() {
					still(t, d, "Make of too long a text"+about, api.ErrForm, func() (*super.Super, api.Errno) { return super.Make(d, at, b) })
				}
			}
			d.Fuse(0)
		}
	}
}

// TestTooLong holds texts that are too long, where there is nothing yet, behind Make and Save, and on a dead device.
func TestTooLong(t *testing.T) {
	for _, b := range tooLong() {
		d := dev.New(3)
		try := func(about string) {
			t.Helper()
			still(t, d, about+": Make of "+strconv.Itoa(len(b)), api.ErrForm, func() (*super.Super, api.Errno) { return super.Make(d, 1, b) })
		}
		try("a new device")
		lost(t, d, 1, "behind Make of too long a text")
		s := makes(t, d, 1, "too long a text", text(1))
		for turn := 1; turn < 6; turn++ {
			try("a device with a text")
			still(t, d, "Save of "+strconv.Itoa(len(b)), api.ErrForm, func() (*super.Super, api.Errno) { return nil, s.Save(b) })
			has(t, s, "behind Save of too long a text", text(turn), int64(turn))
			durable(t, d, 1, "behind Save of too long a text", text(turn), int64(turn))
			saves(t, s, d, 1, "too long a text", text(turn+1), int64(turn+1))
		}
		d.Fuse(0)
		try("a dead device")
		still(t, d, "Save on a dead device", api.ErrForm, func() (*super.Super, api.Errno) { return nil, s.Save(b) })
		has(t, s, "behind Save on a dead device", text(6), 6)
	}
}

// TestManySaves holds many texts, one behind the other, by the same Super and by one that is opened each time.
func TestManySaves(t *testing.T) {
	d, e := dev.New(4), dev.New(4)
	s := makes(t, d, 1, "many", text(1))
	makes(t, e, 1, "many, opened", text(1))
	for turn := 2; turn < 600; turn++ {
		saves(t, s, d, 1, "many", text(turn), int64(turn))
		z := opens(t, e, 1, "many, opened", text(turn-1), int64(turn-1))
		saves(t, z, e, 1, "many, opened", text(turn), int64(turn))
		if bits.OnesCount(uint(turn)) == 1 {
			e = e.Crash()
		}
	}
}

// TestSameTextAgain holds that a text stored again counts.
func TestSameTextAgain(t *testing.T) {
	d := dev.New(2)
	s := makes(t, d, 0, "the same text", "one")
	for turn := range 20 {
		saves(t, s, d, 0, "the same text", "one", int64(turn+2))
	}
}

// TestMakeAnew holds that Make loses what was there before, however often it was stored, and whatever else it was.
func TestMakeAnew(t *testing.T) {
	for before := range 9 {
		d := dev.New(5)
		fill(t, d, 7)
		s := makes(t, d, 2, "a first one", "one")
		for turn := range before {
			saves(t, s, d, 2, "a first one", text(turn), int64(turn+2))
		}
		s = makes(t, d, 2, "one anew", "new")
		for turn := range 5 {
			saves(t, s, d, 2, "one anew", text(turn+50), int64(turn+2))
			s = opens(t, d, 2, "one anew", text(turn+50), int64(turn+2))
		}
		makes(t, d, 2, "one anew again", "newer")
	}
}

// TestMakeAcross holds Make at a place of which one sector belonged to another text.
func TestMakeAcross(t *testing.T) {
	for _, at := range []int{1, 3} {
		for before := range 4 {
			d := dev.New(5)
			s := makes(t, d, 2, "an elder one", "elder")
			for turn := range before {
				saves(t, s, d, 2, "an elder one", text(turn), int64(turn+2))
			}
			s = makes(t, d, at, "across it", "new")
			saves(t, s, d, at, "across it", "newer", 2)
			saves(t, s, d, at, "across it", "the newest", 3)
		}
	}
}

// TestFlushes holds that Make and Save make all of the device durable, and that Open does not.
func TestFlushes(t *testing.T) {
	d := dev.New(6)
	d.Write(0, []byte("ahead of Make"))
	s := makes(t, d, 2, "Make", "one")
	d.Write(5, []byte("ahead of Save"))
	if s, err := super.Open(d, 2); err != api.OK || len(d.Loose()) != 1 || s.Turn() != 1 {
		t.Errorf("P18.1: Open of a device of which a sector is loose: %d, %v", err, d.Loose())
	}
	saves(t, s, d, 2, "Save", "two", 2)
	left := sectors(t, d.Crash())
	if !strings.HasPrefix(left[0], "ahead of Make") || !strings.HasPrefix(left[5], "ahead of Save") {
		t.Error("P18.1: Make or Save did not flush the device")
	}
}

// TestOpenOfNothing holds sectors in which there is no text.
func TestOpenOfNothing(t *testing.T) {
	for _, n := range sizes()[1:] {
		d := dev.New(n)
		for _, at := range []int{0, (n - 2) / 2, n - 2} {
			lost(t, d, at, "zeros")
		}
		fill(t, d, 3)
		for _, at := range []int{0, (n - 2) / 2, n - 2} {
			lost(t, d, at, "something else")
		}
	}
	d := dev.New(2)
	for x := range 256 {
		put(t, d, 0, []byte(strings.Repeat(string([]byte{byte(x)}), 64)))
		put(t, d, 1, []byte(strings.Repeat(string([]byte{byte(255 - x)}), 64)))
		lost(t, d, 0, "the same byte all over")
	}
	for seed := range 3000 {
		put(t, d, seed%2, mixed(64, seed))
		lost(t, d, 0, "any bytes")
	}
	s := makes(t, d, 0, "over any bytes", "one")
	saves(t, s, d, 0, "over any bytes", "two", 2)
}

// TestSomethingElseInOne holds that one of the two sectors can hold something else, and that Save mends it.
func TestSomethingElseInOne(t *testing.T) {
	for turn := 1; turn < 6; turn++ {
		for k := range 2 {
			for _, other := range [][]byte{make([]byte, 64), mixed(64, turn), []byte("x"), []byte(strings.Repeat("\xff", 33)), make([]byte, 5)} {
				d := dev.New(4)
				s := makes(t, d, 1, "ahead of something else", text(1))
				for n := 2; n <= turn; n++ {
					saves(t, s, d, 1, "ahead of something else", text(n), int64(n))
				}
				put(t, d, 1+k, other)
				s, err := super.Open(d, 1)
				if err != api.OK || s.Turn() != int64(turn) && s.Turn() != int64(turn-1) {
					t.Fatalf("P18.1: something else in one sector behind %d texts: %d", turn, err)
				}
				left := s.Turn()
				has(t, s, "something else in one sector", text(int(left)), left)
				saves(t, s, d, 1, "over something else", "mended", left+1)
				saves(t, s, d, 1, "over something else", "and on", left+2)
			}
		}
	}
}

// TestDeadDevice holds that Make and Save are not done on a dead device, and that Open is.
func TestDeadDevice(t *testing.T) {
	d := dev.New(4)
	d.Fuse(0)
	still(t, d, "Make on a dead device", api.ErrDown, func() (*super.Super, api.Errno) { return super.Make(d, 1, []byte("one")) })
	lost(t, d, 1, "a dead device")
	d = dev.New(4)
	s := makes(t, d, 1, "a device that will be dead", text(1))
	for turn := 1; turn < 5; turn++ {
		c := d.Crash()
		y := opens(t, c, 1, "a device that will be dead", text(turn), int64(turn))
		c.Fuse(0)
		for _, z := range []*super.Super{y, opens(t, c, 1, "a dead device", text(turn), int64(turn))} {
			for _, b := range []string{"", "two", strings.Repeat("x", 40)} {
				still(t, c, "Save on a dead device", api.ErrDown, func() (*super.Super, api.Errno) { return nil, z.Save([]byte(b)) })
				has(t, z, "behind Save on a dead device", text(turn), int64(turn))
			}
		}
		still(t, c, "Make on a dead device", api.ErrDown, func() (*super.Super, api.Errno) { return super.Make(c, 1, []byte("new")) })
		saves(t, s, d, 1, "a device that will be dead", text(turn+1), int64(turn+1))
	}
}

// TestNoDevice holds that no device has no sectors, also if it is one that dev.New has not made.
func TestNoDevice(t *testing.T) {
	for _, d := range []*dev.Dev{nil, new(dev.Dev)} {
		for _, at := range append(beyond(1), 0, 1, 2) {
			if s, err := super.Open(d, at); s != nil || err != api.ErrRange {
				t.Errorf("P18.1: Open of no device at %d: %t, %d", at, s != nil, err)
			}
			if s, err := super.Make(d, at, mixed(40, 1)); s != nil || err != api.ErrRange {
				t.Errorf("P18.1: Make on no device at %d: %t, %d", at, s != nil, err)
			}
			for _, b := range tooLong() {
				if s, err := super.Make(d, at, b); s != nil || err != api.ErrForm {
					t.Errorf("P18.1: Make of too long a text on no device at %d: %t, %d", at, s != nil, err)
				}
			}
		}
	}
}

// TestNil holds all methods on a nil *Super, and that those of one that was not made do not panic.
func TestNil(t *testing.T) {
	var none *super.Super
	for _, b := range append(tooLong(), nil, []byte{}, []byte("x"), mixed(40, 1)) {
		if err := none.Save(b); err != api.ErrDown {
			t.Errorf("P18.1: Save of %d bytes on a nil *Super: %d", len(b), err)
		}
		if none.Text() != nil || none.Turn() != 0 {
			t.Error("P18.1: Text or Turn of a nil *Super")
		}
	}
	empty := new(super.Super)
	if empty.Save([]byte("x")) == api.OK || empty.Save(mixed(41, 1)) == api.OK || len(empty.Text()) != 0 || empty.Turn() != 0 {
		t.Error("P0.1: a Super that neither Make nor Open has made saves, or has a text")
	}
}

// TestTwoSideBySide holds that two texts on one device do not touch one another, nor what stands beside them.
func TestTwoSideBySide(t *testing.T) {
	for _, at := range [][2]int{{0, 2}, {2, 0}, {1, 3}, {3, 0}, {0, 5}} {
		d := dev.New(7)
		fill(t, d, 20)
		before := sectors(t, d)
		a := makes(t, d, at[0], "side by side", "a")
		b := makes(t, d, at[1], "side by side", "b")
		opens(t, d, at[0], "beside Make", "a", 1)
		for turn := 2; turn < 12; turn++ {
			saves(t, a, d, at[0], "side by side", text(turn), int64(turn))
			if turn%2 == 0 {
				saves(t, b, d, at[1], "side by side", text(turn+1), int64(turn/2+1))
			}
			opens(t, d, at[0], "beside Save", text(turn), int64(turn))
		}
		makes(t, d, at[1], "side by side, anew", "new")
		opens(t, d, at[0], "beside one made anew", text(11), 11)
		for i, b := range sectors(t, d) {
			if beside := i != at[0] && i != at[0]+1 && i != at[1] && i != at[1]+1; beside && b != before[i] {
				t.Errorf("P18.1: two texts at %v: the sector %d changed", at, i)
			}
		}
	}
}
