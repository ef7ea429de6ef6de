package dev_test

import (
	"math"
	"slices"
	"strings"
	"testing"

	"diapause/api"
	"diapause/dev"
)

// TestFuseExample goes through the chapter's example of Fuse.
func TestFuseExample(t *testing.T) {
	d := dev.New(4)
	d.Fuse(2)
	if d.Write(1, []byte("one")) != api.OK || d.Dead() || d.Flush() != api.OK || !d.Dead() {
		t.Error("P17.1: the example: not dead behind two calls, or not before")
	}
	d.Fuse(-1)
	if !d.Dead() || d.Write(1, nil) != api.ErrDown || d.Flush() != api.ErrDown || starts(t, d, 1, 3) != "one" {
		t.Error("P17.1: the example: Fuse(-1) changes it, or Read does not return the sectors")
	}
}

// burn makes the calls that the signs tell: w a Write, e a Write of no bytes, f a Flush, r a Write to no sector, l a Write that is too
// long, ? Dead, o all others that do not count; a digit is a Fuse of it, - a negative one. It tells what w, e, f, r, l and ? answer.
func burn(d *dev.Dev, calls string) string {
	told := ""
	for _, c := range calls {
		switch c {
		case 'w':
			told += letter(d.Write(0, []byte("w")))
		case 'e':
			told += letter(d.Write(1, nil))
		case 'f':
			told += letter(d.Flush())
		case 'r':
			told += letter(d.Write(d.Len(), nil))
		case 'l':
			told += letter(d.Write(1, make([]byte, 65)))
		case '?':
			told += answer(d.Dead())
		case 'o':
			d.Read(0)
			d.Read(-1)
			d.Loose()
			d.Calls()
			d.Len()
			d.Crash(true)
		case '-':
			d.Fuse(-1)
		default:
			d.Fuse(int(c - '0'))
		}
	}
	return told
}

func answer(yes bool) string {
	if yes {
		return "y"
	}
	return "n"
}

func letter(err api.Errno) string {
	switch err {
	case api.OK:
		return "k"
	case api.ErrDown:
		return "d"
	case api.ErrRange:
		return "r"
	case api.ErrForm:
		return "l"
	}
	return "?"
}

func TestFuse(t *testing.T) {
	for _, x := range []struct{ about, calls, want string }{
		{"no fuse", "?wfwefwfw?", "nkkkkkkkkn"},
		{"a fuse of 0", "0?wferl?", "ydddddy"},
		{"a fuse of 0 behind calls", "wfw0?wf", "kkkydd"},
		{"a fuse of 1, by a Write", "1?w?wf", "nkydd"},
		{"a fuse of 1, by a Flush", "1?f?wf", "nkydd"},
		{"a fuse of 1, by a Write of no bytes", "1?e?wf", "nkydd"},
		{"a fuse of 2", "2w?f?wf", "knkydd"},
		{"a fuse of 2, two of a kind", "2w?w?w", "knkyd"},
		{"a fuse of 9", "9wwwffweff?w", "kkkkkkkkkyd"},
		{"a fuse of 9, but for one", "9wwwffwef?fw", "kkkkkkkknkd"},
		{"a fuse behind calls", "wfwf2w?f?w", "kkkkknkyd"},
		{"a negative one", "-?wfwfw?", "nkkkkkn"},
		{"a negative one twice", "--wf?", "kkn"},
		{"a negative one upon a fuse", "3ww-wwww?", "kkkkkkn"},
		{"a negative one upon a whole fuse", "1-wfwf?", "kkkkn"},
		{"a fuse upon a negative one", "-2w?f?w", "knkyd"},
		{"a fuse upon one that was cancelled", "5w-ww2w?f?w", "kkkknkyd"},
		{"a greater one upon another", "2w5wfwf?w?f", "kkkkknkyd"},
		{"a smaller one upon another", "5w2w?f?w", "kknkyd"},
		{"the same one again", "2w2w?f?w", "kknkyd"},
		{"the same one at once", "22w?w?w", "knkyd"},
		{"a 0 upon another", "5w0?w", "kyd"},
		{"a negative one on a dead device", "0-?wf", "ydd"},
		{"a fuse on a dead device", "0579?wf", "ydd"},
		{"a fuse on a device that a fuse killed", "1w5?w-?f0?w1?w", "kydydydyd"},
		{"calls with ErrRange do not count", "2rrrwrr?fr", "rrrkrrnkd"},
		{"calls with ErrForm do not count", "2lllwll?fl", "lllkllnkd"},
		{"calls with both of them", "1rlrl?wrl", "rlrlnkdd"},
		{"others do not count", "2ooowooo?f?w", "knkyd"},
		{"no others on a dead device, either", "1wooo?w", "kyd"},
	} {
		if got := burn(dev.New(3), x.calls); got != x.want {
			t.Errorf("P17.1: %s: %s: got %s, want %s", x.about, x.calls, got, x.want)
		}
	}
}

// TestFuseOfAnyNumber holds that the device lives just so long, for numbers of any size.
func TestFuseOfAnyNumber(t *testing.T) {
	for _, n := range []int{10, 63, 64, 100, 255, 256, 257, 1000, 65535, 65536, 65537} {
		d := dev.New(1)
		d.Fuse(n)
		for k := range n {
			if d.Dead() || d.Flush() != api.OK {
				t.Fatalf("P17.1: Fuse(%d): dead behind %d calls", n, k)
			}
		}
		if !d.Dead() || d.Write(0, nil) != api.ErrDown || d.Calls() != n {
			t.Errorf("P17.1: Fuse(%d): not dead behind as many calls", n)
		}
	}
	for _, n := range []int{math.MinInt, math.MinInt + 1, -1 << 32, -1<<32 + 2, -1 << 31, -256, -2, -1, 1 << 32, 1<<32 + 1, 1 << 40, math.MaxInt} {
		d := dev.New(1)
		d.Fuse(3)
		d.Fuse(n)
		for range 2000 {
			if d.Dead() || d.Flush() != api.OK || d.Write(0, nil) != api.OK {
				t.Fatalf("P17.1: Fuse(%d): dead behind %d calls", n, d.Calls())
			}
		}
	}
}

// TestFuseChangesNothingElse holds what is told beside Dead, on a device with loose sectors.
func TestFuseChangesNothingElse(t *testing.T) {
	for _, n := range []int{math.MinInt, -1, 0, 1, 2, 9, math.MaxInt} {
		x := newBoth(t, 4, "Fuse")
		x.fill(2)
		x.flush()
		x.write(3, []byte("three"))
		x.write(1, []byte("one"))
		x.fuse(n)
		x.fuse(n)
		x.write(3, []byte("3"))
		x.write(4, []byte("four"))
		x.write(2, mixed(65, 1))
		x.flush()
		x.write(0, mixed(65, 1))
		x.write(0, mixed(64, 1))
		x.fuse(5)
	}
}

// TestDeadHasNoEffect holds that no call changes a dead device, at whichever of its calls it died.
func TestDeadHasNoEffect(t *testing.T) {
	for n := range 8 {
		x := newBoth(t, 3, "a dead device")
		x.fuse(n)
		for k := range 12 {
			x.write(2, []byte("two"))
			x.write(k%3, mixed(k, k))
			x.flush()
			x.write(0, []byte("nought"))
			x.write(1, []byte("1"))
		}
		if !x.d.Dead() || x.d.Calls() != n {
			t.Errorf("P17.1: Fuse(%d): Dead %t, Calls %d", n, x.d.Dead(), x.d.Calls())
		}
	}
}

// TestDead holds that a device is dead just where the fuse makes it so.
func TestDead(t *testing.T) {
	for _, calls := range []string{"", "w", "f", "wfwf", "r", "l", "9", "9wf", "-", "3-", "2w-f", "1rl", "5o", "3wr-wwww"} {
		if got := burn(dev.New(1), calls+"??"); !strings.HasSuffix(got, "nn") {
			t.Errorf("P17.1: Dead after %q: got %s", calls, got)
		}
	}
	for _, calls := range []string{"0", "0-", "09", "1f", "1e", "2wf", "w0", "9wf0", "-0", "1rlw", "3wrflf", "0o"} {
		if got := burn(dev.New(2), calls+"??"); !strings.HasSuffix(got, "yy") {
			t.Errorf("P17.1: Dead after %q: got %s", calls, got)
		}
	}
}

// TestOfNone holds what the chapter says of a nil *Dev, for all arguments, and that no call makes it panic.
func TestOfNone(t *testing.T) {
	var none *dev.Dev
	for _, n := range slices.Concat(beyond(), []int{0, 1, 2, 64}) {
		none.Fuse(n)
		if b, err := none.Read(n); len(b) != 0 || err != api.ErrDown {
			t.Errorf("P17.2: of nil: Read(%d): got %x, %d", n, b, err)
		}
		for _, b := range [][]byte{nil, {}, {1}, make([]byte, 64), make([]byte, 65), make([]byte, 1<<16)} {
			if err := none.Write(n, b); err != api.ErrDown {
				t.Errorf("P17.2: of nil: Write(%d) of %d bytes: got %d", n, len(b), err)
			}
		}
		if err := none.Flush(); err != api.ErrDown || !none.Dead() {
			t.Errorf("P17.2: of nil: Flush: got %d, Dead %t", err, none.Dead())
		}
		if none.Len() != 0 || none.Calls() != 0 || len(none.Loose()) != 0 {
			t.Errorf("P17.2: of nil: Len %d, Calls %d, Loose %v", none.Len(), none.Calls(), none.Loose())
		}
		if none.Crash() != nil || none.Crash(true) != nil || none.Crash(false, true, true) != nil {
			t.Error("P17.2: of nil: Crash: a device")
		}
	}
}

// TestOfTheZeroDev holds P0.1 for a device that New has not made: it has no sectors.
func TestOfTheZeroDev(t *testing.T) {
	x := &both{t, "the zero Dev", new(dev.Dev), newPlain(0)}
	for _, i := range append(beyond(), 0, 1) {
		x.read("nothing", i)
		x.write(i, nil)
		x.write(i, mixed(65, 1))
	}
	x.flush()
	x.fuse(2)
	x.crash([]bool{true}).same("a crash")
	x.flush()
	x.flush()
	x.write(0, nil)
}
