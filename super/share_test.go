package super_test

import (
	"bytes"
	"slices"
	"sync"
	"testing"

	"diapause/api"
	"diapause/dev"
	"diapause/super"
)

// spoil writes over all of a list, with what is spare behind it.
func spoil(b []byte, x byte) {
	b = b[:cap(b)]
	for k := range b {
		b[k] = x
	}
}

// TestKeepsNothing holds P0.3: the text given stays as it is, with what is spare behind it, and is not kept.
func TestKeepsNothing(t *testing.T) {
	for n := range 41 {
		all := mixed(100, n)
		want := bytes.Clone(all)
		b := all[20 : 20+n]
		text := string(b)
		d := dev.New(3)
		s, err := super.Make(d, 1, b)
		if err != api.OK || !bytes.Equal(all, want) {
			t.Fatalf("P0.3: Make of %d bytes: %d, or it changed what was given, or what lies about it", n, err)
		}
		spoil(b, 0xaa)
		has(t, s, "spoiling what was given to Make", text, 1)
		durable(t, d, 1, "spoiling what was given to Make", text, 1)
		for turn := int64(2); turn < 6; turn++ {
			copy(all, want)
			if err := s.Save(b); err != api.OK || !bytes.Equal(all, want) {
				t.Fatalf("P0.3: Save of %d bytes: %d, or it changed what was given, or what lies about it", n, err)
			}
			spoil(b, byte(turn))
			has(t, s, "spoiling what was given to Save", text, turn)
			durable(t, d, 1, "spoiling what was given to Save", text, turn)
		}
		spoil(b, 0xbb)
		saves(t, s, d, 1, "spoiled bytes", "other", 6)
		if k := bytes.Count(all, []byte{0xbb}); k < 80 {
			t.Errorf("P0.3: Save changed what was given ahead of it: %x", all)
		}
	}
}

// TestFailuresKeepNothing holds the same where the call fails.
func TestFailuresKeepNothing(t *testing.T) {
	d := dev.New(3)
	s := makes(t, d, 1, "failures", "one")
	all := mixed(200, 4)
	want := bytes.Clone(all)
	for range 2 {
		for _, n := range []int{0, 1, 40, 41, 64, 65, 120} {
			s.Save(all[:n])
			super.Make(d, 2, all[:n])
			super.Make(d, -1, all[:n])
			if !bytes.Equal(all, want) {
				t.Fatalf("P0.3: a call that may fail changed the %d bytes given, or what lies behind them", n)
			}
			d.Fuse(0)
			s.Save(all[:n])
			super.Make(d, 1, all[:n])
			if !bytes.Equal(all, want) {
				t.Fatalf("P0.3: a call on a dead device changed the %d bytes given, or what lies behind them", n)
			}
		}
		spoil(all, 7)
		if got := string(s.Text()); got != "" || s.Turn() != 2 {
			t.Errorf("P0.3: Text behind calls that fail: %q, %d", got, s.Turn())
		}
		copy(all, want)
	}
}

// TestTextIsACopy holds P0.3: what is done to a text that was handed out changes neither the Super, nor the device, nor another text.
func TestTextIsACopy(t *testing.T) {
	for turn := 1; turn < 45; turn++ {
		d, s := stored(t, turn)
		for _, x := range []*super.Super{s, opens(t, d, 1, "texts handed out", text(turn), int64(turn))} {
			first, second := x.Text(), x.Text()
			spoil(first, 0xaa)
			if string(second) != text(turn) {
				t.Error("P0.3: Text changed with another one handed out")
			}
			_ = append(second, 0xbb)
			has(t, x, "appending to Text", text(turn), int64(turn))
			spoil(second, 0xcc)
			has(t, x, "spoiling Text", text(turn), int64(turn))
			durable(t, d, 1, "spoiling Text", text(turn), int64(turn))
		}
		kept := s.Text()
		saves(t, s, d, 1, "texts handed out", string(mixed(40, 1)), int64(turn+1))
		saves(t, s, d, 1, "texts handed out", string(mixed(40, 2)), int64(turn+2))
		if string(kept) != text(turn) {
			t.Error("P0.3: a text handed out ahead of a Save changed")
		}
	}
}

// TestSupersStandAlone holds P0.5: Text and Turn hang on the calls of their own Super alone, not on the device or on another one.
func TestSupersStandAlone(t *testing.T) {
	d := dev.New(6)
	a := makes(t, d, 1, "one of several", "a")
	saves(t, a, d, 1, "one of several", "a, again", 2)
	b := opens(t, d, 1, "opened beside it", "a, again", 2)
	saves(t, a, d, 1, "one of several", "a, once more", 3)
	saves(t, a, d, 1, "one of several", "a, and more", 4)
	has(t, b, "opened beside one that saves", "a, again", 2)
	c := makes(t, d, 1, "made over it", "c")
	has(t, a, "the one ahead of Make", "a, and more", 4)
	fill(t, d, 9)
	has(t, c, "a device that was written over", "c", 1)
	d.Crash()
	d.Fuse(0)
	has(t, c, "a dead device", "c", 1)
	has(t, b, "a dead device", "a, again", 2)
}

// TestCrashedStandAlone holds that what is done to a device is not done to what a crash of it left, nor the other way round.
func TestCrashedStandAlone(t *testing.T) {
	d, s := stored(t, 2)
	c := d.Crash()
	z := opens(t, c, 1, "what a crash left", text(2), 2)
	saves(t, s, d, 1, "the elder device", "elder", 3)
	opens(t, c, 1, "what a crash left", text(2), 2)
	saves(t, z, c, 1, "what a crash left", "newer", 3)
	saves(t, z, c, 1, "what a crash left", "the newest", 4)
	opens(t, d, 1, "the elder device", "elder", 3)
	has(t, s, "the elder device", "elder", 3)
}

// TestDevicesAtOnce holds that devices which are used at the same time do not touch one another.
func TestDevicesAtOnce(t *testing.T) {
	var group sync.WaitGroup
	for k := range 6 {
		group.Go(func() {
			d := dev.New(4 + k)
			s, err := super.Make(d, k, []byte(text(1)))
			for turn := 2; turn < 80 && err == api.OK; turn++ {
				err = s.Save([]byte(text(turn + k)))
				z, opened := super.Open(d, k)
				if opened != api.OK || string(z.Text()) != text(turn+k) || z.Turn() != int64(turn) {
					t.Errorf("P0.5: Open beside others that are used: %d", opened)
				}
			}
			if err != api.OK {
				t.Errorf("P0.5: Make or Save beside others that are used: %d", err)
			}
		})
	}
	group.Wait()
}

// TestSameAgain holds P0.5: the same calls leave the same bytes.
func TestSameAgain(t *testing.T) {
	var first []string
	for n := range 5 {
		d, s := stored(t, 7)
		saves(t, s, d, 1, "the same again", "last", 8)
		if l := sectors(t, d); n == 0 {
			first = l
		} else if !slices.Equal(l, first) {
			t.Error("P0.5: the same calls leave other bytes")
		}
	}
}
