package super_test

import (
	"strconv"
	"testing"

	"diapause/api"
	"diapause/dev"
	"diapause/super"
)

// keeps are all choices of what up to n loose sectors keep.
func keeps(n int) [][]bool {
	var all [][]bool
	for x := range 1 << n {
		keep := make([]bool, n)
		for k := range keep {
			keep[k] = x>>k&1 == 1
		}
		all = append(all, keep)
	}
	return all
}

// stored makes a device that stands behind so many texts, and its Super, at 1.
func stored(t *testing.T, turn int) (*dev.Dev, *super.Super) {
	t.Helper()
	d := dev.New(4)
	fill(t, d, 30)
	s := makes(t, d, 1, "texts", text(1))
	for n := 2; n <= turn; n++ {
		saves(t, s, d, 1, "texts", text(n), int64(n))
	}
	return d, s
}

// either opens what a crash within the Save of the text of this turn left: that one, or the one ahead of it.
func either(t *testing.T, d *dev.Dev, about string, turn int) (*super.Super, int) {
	t.Helper()
	s, err := super.Open(d, 1)
	if err != api.OK {
		t.Fatalf("P18.1: %s: Open: %d", about, err)
	}
	left := int(s.Turn())
	if left != turn && left != turn-1 {
		t.Fatalf("P18.1: %s: Open finds the turn %d, of %d and %d", about, left, turn-1, turn)
	}
	has(t, s, about, text(left), int64(left))
	return s, left
}

// TestDeathWithinSave lets the device die at each call within a Save, with each choice of what its loose sectors keep.
func TestDeathWithinSave(t *testing.T) {
	for turn := 2; turn < 8; turn++ {
		for fuse := range 6 {
			for beside := range 2 {
				d, s := stored(t, turn-1)
				if beside == 1 {
					d.Write(0, []byte("loose ahead of it"))
					d.Write(3, []byte("loose behind it"))
				}
				d.Fuse(fuse)
				err := s.Save([]byte(text(turn)))
				about := "a death " + strconv.Itoa(fuse) + " calls from " + strconv.Itoa(turn-1)
				if err == api.OK {
					has(t, s, about, text(turn), int64(turn))
				} else {
					has(t, s, about, text(turn-1), int64(turn-1))
				}
				if err != api.OK && err != api.ErrDown || err == api.OK && fuse == 0 || err != api.OK && !d.Dead() {
					t.Errorf("P18.1: %s: Save: %d", about, err)
				}
				goOn(t, d, about, turn, err)
			}
		}
	}
}

// goOn holds what each crash leaves of a device behind a Save: it can be opened, and saves on.
func goOn(t *testing.T, d *dev.Dev, about string, turn int, err api.Errno) {
	t.Helper()
	either(t, d, about+", ahead of the crash", turn)
	for _, keep := range keeps(4) {
		c := d.Crash(keep...)
		s, left := either(t, c, about, turn)
		if err == api.OK && left != turn {
			t.Errorf("P18.1: %s: Save returned OK, and %d is stored", about, left)
		}
		for n := left + 1; n < left+4; n++ {
			saves(t, s, c, 1, about+", on", text(n), int64(n))
		}
	}
}

// TestUnflushedIsLost holds that what stands in a loose sector counts if the crash keeps it, and not otherwise.
func TestUnflushedIsLost(t *testing.T) {
	for turn := 2; turn < 6; turn++ {
		d, s := stored(t, turn-1)
		d.Fuse(1)
		if err := s.Save([]byte(text(turn))); err != api.ErrDown {
			t.Errorf("P18.1: Save of which nothing is durable: %d", err)
		}
		opens(t, d.Crash(), 1, "a crash that keeps nothing", text(turn-1), int64(turn-1))
		opens(t, d.Crash(true, true), 1, "a crash that keeps all", text(turn), int64(turn))
	}
}

// TestDeathAgain lets one device after the other die within a Save, each what the crash left of the last one.
func TestDeathAgain(t *testing.T) {
	for _, first := range []int{1, 2, 3} {
		for path := range 1 << 10 {
			d, _ := stored(t, first)
			turn := first
			for k := range 5 {
				s := opens(t, d, 1, "crashes", text(turn), int64(turn))
				d.Fuse(path >> (2 * k) & 1)
				s.Save([]byte(text(turn + 1)))
				d = d.Crash(path>>(2*k+1)&1 == 1)
				_, turn = either(t, d, "crashes", turn+1)
			}
		}
	}
}

// TestDeathBehindSave holds that a device which dies by the last call of a Save has saved, and one call earlier has not.
func TestDeathBehindSave(t *testing.T) {
	for turn := 2; turn < 6; turn++ {
		d, s := stored(t, turn-1)
		ahead := d.Calls()
		saves(t, s, d, 1, "a Save", text(turn), int64(turn))
		calls := d.Calls() - ahead
		d, s = stored(t, turn-1)
		d.Fuse(calls)
		saves(t, s, d, 1, "a Save that a death follows", text(turn), int64(turn))
		if !d.Dead() {
			t.Errorf("P18.1: Save of %d: %d calls, and then more", turn, calls)
		}
		d, s = stored(t, turn-1)
		d.Fuse(calls - 1)
		if err := s.Save([]byte(text(turn))); err != api.ErrDown {
			t.Errorf("P18.1: Save of %d that lacks its last call: %d", turn, err)
		}
		has(t, s, "a Save that lacks its last call", text(turn-1), int64(turn-1))
	}
}

// TestDeathWithinMake lets the device die at each call within Make: it answers the device's error, and Make can be done again.
func TestDeathWithinMake(t *testing.T) {
	for turn := range 5 {
		for fuse := range 6 {
			d := dev.New(4)
			if turn > 0 {
				d, _ = stored(t, turn)
			}
			d.Fuse(fuse)
			s, err := super.Make(d, 1, []byte("new"))
			if err == api.OK {
				has(t, s, "Make", "new", 1)
				durable(t, d, 1, "Make ahead of a death", "new", 1)
			} else if s != nil || err != api.ErrDown || !d.Dead() {
				t.Errorf("P18.1: a death %d calls from Make: %t, %d", fuse, s != nil, err)
			}
			if err == api.OK && fuse == 0 {
				t.Error("P18.1: Make on a dead device: OK")
			}
			for _, keep := range keeps(2) {
				c := d.Crash(keep...)
				if z, left := super.Open(c, 1); left != api.OK && (z != nil || left != api.ErrCorrupt || err == api.OK) {
					t.Errorf("P18.1: Open behind a death within Make: %t, %d", z != nil, left)
				}
				z := makes(t, c, 1, "Make behind a death", "newer")
				saves(t, z, c, 1, "Make behind a death", "the newest", 2)
			}
		}
	}
}
