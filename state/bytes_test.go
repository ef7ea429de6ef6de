package state_test

import (
	"bytes"
	"fmt"
	"math"
	"math/rand/v2"
	"slices"
	"strings"
	"testing"

	"diapause/api"
	"diapause/state"
)

// some are states with all that an encoding may hold, and few bytes.
func some() map[string]state.State {
	return map[string]state.State{
		"the zero State":              {},
		"the zero State with Asks -1": {Asks: -1},
		"Asks alone":                  {Asks: 10000},
		"a value":                     {Vals: []api.Val{i32(-1)}},
		"values":                      {Vals: []api.Val{i64(math.MinInt64), i32(math.MinInt32), i64(math.MaxInt64), i32(math.MaxInt32), i32(64), i64(-65)}, Asks: -1},
		"a Frame of zeros":            {Frames: make([]state.Frame, 1)},
		"Frames of zeros":             {Frames: make([]state.Frame, 32), Asks: 127},
		"a Frame with a local":        {Frames: []state.Frame{{Fn: 1, Locals: []api.Val{i32(300)}}}},
		"a Frame with a Label":        {Frames: []state.Frame{{Pc: 1, Labels: []state.Label{{At: 300, Height: 10000}}}}},
		"several of everything":       full(),
	}
}

// TestPrefixes is the chapter's example: no proper prefix of an encoding is one, nor is an encoding with a byte behind it.
func TestPrefixes(t *testing.T) {
	for name, s := range some() {
		b := state.Encode(s)
		for cut := range b {
			refuse(t, b[:cut], "a prefix of "+name)
			refuse(t, slices.Clone(b[:cut]), "a prefix of "+name+", with nothing behind it")
		}
		for n := range 256 {
			more := append(bytes.Clone(b), byte(n))
			refuse(t, more, name+" with a byte behind it")
			for _, last := range []byte{0, 1, 2, 0x7f, 0x80, 0xff} {
				refuse(t, append(more, last), name+" with two bytes behind it")
			}
		}
		refuse(t, slices.Concat(b, b), name+" twice")
		refuse(t, slices.Concat(b, make([]byte, 1000)), name+" with noughts behind it")
		for at := 1; at < len(b); at++ {
			holdBytes(t, b[at:], name+" without its beginning")
		}
	}
	refuse(t, nil, "no bytes")
	refuse(t, []byte{}, "an empty list of bytes")
}

// TestPrefixesOfTheGreatest does the same for the longest encoding, which is too long for all of them.
func TestPrefixesOfTheGreatest(t *testing.T) {
	b := state.Encode(greatest())
	for cut := 0; cut < len(b); cut += 37 {
		refuse(t, b[:cut], "a prefix of the greatest")
	}
	for cut := len(b) - 50; cut < len(b); cut++ {
		refuse(t, b[:cut], "a long prefix of the greatest")
	}
	for n := range 256 {
		refuse(t, append(bytes.Clone(b), byte(n)), "the greatest with a byte behind it")
	}
	refuse(t, slices.Concat(b, b), "the greatest twice")
}

// TestChangedBytes holds encodings with a byte that is another one, one less, or one more.
func TestChangedBytes(t *testing.T) {
	met := map[api.Errno]int{}
	for name, s := range some() {
		b := state.Encode(s)
		for at := range b {
			for n := range 256 {
				changed := bytes.Clone(b)
				changed[at] = byte(n)
				met[holdBytes(t, changed, "a byte changed: "+name)]++
				met[holdBytes(t, slices.Insert(bytes.Clone(b), at, byte(n)), "a byte more: "+name)]++
			}
			met[holdBytes(t, slices.Delete(bytes.Clone(b), at, at+1), "a byte less: "+name)]++
		}
	}
	b := state.Encode(greatest())
	for at := 0; at < len(b); at += 101 {
		changed := bytes.Clone(b)
		changed[at] ^= 1 << (at % 8)
		met[holdBytes(t, changed, "a byte of the greatest changed")]++
	}
	if met[api.OK] < 1000 || met[api.ErrCorrupt] < 1000 {
		t.Errorf("the test itself: got %v", met)
	}
}

// TestLongerNumbers holds each number that is written longer than it needs be.
func TestLongerNumbers(t *testing.T) {
	for name, s := range some() {
		all := parts(s)
		for k, p := range all {
			var b []byte
			for j, q := range all {
				if j == k {
					b = append(b, p.longer()...)
				} else {
					b = append(b, q.bytes()...)
				}
			}
			refuse(t, b, fmt.Sprint("the number ", k, " of ", name, " written longer"))
		}
	}
}

// TestWrongNumbers holds each number that is another one, in the form of the encoding: those of lists that are longer or shorter
// than they say, and those out of their range.
func TestWrongNumbers(t *testing.T) {
	for name, s := range some() {
		all := parts(s)
		for k, p := range all {
			for _, n := range []int64{p.n - 1, p.n + 1, p.n + 2, -1, 0, 1, 2, 3, 32, 33, 40, 41, 1000, 1001, 10000, 10001, 10002, p.n + 1<<14, p.n + 1<<16, p.n + 1<<32, 1 << 31, 1<<32 - 1, math.MaxInt64, math.MinInt64} {
				wrong := slices.Clone(all)
				wrong[k].n = n
				var b []byte
				for _, q := range wrong {
					b = append(b, q.bytes()...)
				}
				holdBytes(t, b, fmt.Sprint("the number ", k, " of ", name, " is ", n))
				if !p.signed && (n < 0 || n > 10001) {
					refuse(t, b, fmt.Sprint("the number ", k, " of ", name, " is ", n))
				}
			}
		}
	}
}

// TestCountsOfWhatIsNotThere holds that a list that says that it is long takes neither time nor memory.
func TestCountsOfWhatIsNotThere(t *testing.T) {
	counts := []int64{1, 31, 32, 33, 40, 41, 1000, 1001, 1 << 20, 1<<32 - 1, 1 << 32, 1 << 62, -1}
	for _, n := range counts {
		count := part{n: n}.bytes()
		for _, before := range [][]byte{{0}, {0, 0}, {0, 0, 1, 0, 0, 0}, {0, 0, 1, 0, 0, 0, 0}} {
			refuse(t, slices.Concat(before, count), fmt.Sprint("a list of ", n, ", and nothing behind it"))
			for _, x := range []byte{0, 1, 2, 0x7f, 0x80, 0xff} {
				b := slices.Concat(before, count, bytes.Repeat([]byte{x}, 100000))
				refuse(t, b, fmt.Sprint("a list of ", n, ", and many bytes behind it"))
			}
		}
	}
}

// TestShortStrings holds all strings of up to two bytes, and many of a few bytes that stand in encodings.
func TestShortStrings(t *testing.T) {
	good := 0
	for n := range 256 {
		refuse(t, []byte{byte(n)}, "one byte")
		for k := range 256 {
			refuse(t, []byte{byte(n), byte(k)}, "two bytes")
		}
	}
	alphabet := []byte{0, 1, 2, 0x40, 0x80, 0xff}
	for size := 3; size <= 7; size++ {
		b := make([]byte, size)
		var extend func(at int)
		extend = func(at int) {
			if at == size {
				if holdBytes(t, b, "a short string") == api.OK {
					good++
				}
				return
			}
			for _, x := range alphabet {
				b[at] = x
				extend(at + 1)
			}
		}
		extend(0)
	}
	if good < 100 {
		t.Errorf("the test itself: %d encodings among the short strings", good)
	}
}

// TestRandomBytes holds strings of any bytes, of small ones, and of those that stand in encodings.
func TestRandomBytes(t *testing.T) {
	r := rand.New(rand.NewPCG(13, 1))
	pool := slices.Concat(state.Encode(full()), make([]byte, 60), bytes.Repeat([]byte{1, 2}, 30))
	for range 40000 {
		b := make([]byte, r.IntN(1<<r.IntN(9)))
		kind := r.IntN(3)
		for k := range b {
			switch kind {
			case 0:
				b[k] = byte(r.Uint32())
			case 1:
				b[k] = byte(r.IntN(4))
			case 2:
				b[k] = pool[r.IntN(len(pool))]
			}
		}
		holdBytes(t, b, "random bytes")
	}
	for _, n := range []byte{0, 1, 2, 0x7f, 0x80, 0xff} {
		refuse(t, bytes.Repeat([]byte{n}, 3000000), "a very long string")
	}
	refuse(t, []byte(strings.Repeat("diapause", 1000)), "a text")
}
