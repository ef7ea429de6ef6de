package dir_test

import (
	"bytes"
	"fmt"
	"math"
	"slices"
	"testing"

	"diapause/dir"
)

// TestShorter holds that nothing shorter than an encoding is one, at either end.
func TestShorter(t *testing.T) {
	for about, l := range good() {
		b := dir.Encode(l)
		for cut := range b {
			refuse(t, b[:cut], "a prefix of "+about)
			refuse(t, slices.Clone(b[:cut]), "a prefix of "+about+", with nothing behind it")
			holdBytes(t, slices.Delete(bytes.Clone(b), cut, cut+1), "a byte less: "+about)
			if cut > 0 {
				holdBytes(t, b[cut:], "without its beginning: "+about)
			}
		}
	}
	refuse(t, nil, "no bytes")
	refuse(t, []byte{}, "an empty list of bytes")
}

// TestLonger holds that an encoding with anything behind it is none.
func TestLonger(t *testing.T) {
	for about, l := range good() {
		b := dir.Encode(l)
		for n := range 256 {
			more := append(bytes.Clone(b), byte(n))
			refuse(t, more, about+", with a byte behind it")
			refuse(t, append(more, 0), about+", with two bytes behind it")
		}
		refuse(t, slices.Concat(b, b), about+", twice")
		refuse(t, slices.Concat(b, make([]byte, 1000)), about+", with noughts behind it")
		for _, other := range good() {
			refuse(t, slices.Concat(b, forged(other)), about+", with another list behind it")
			refuse(t, slices.Concat(b, forged(other)[1:], []byte{0}), about+", with the entries of another list behind it")
		}
	}
}

// TestAltered holds each encoding with a byte that is another one, and with a byte more.
func TestAltered(t *testing.T) {
	found, refused := 0, 0
	for about, l := range good() {
		b := dir.Encode(l)
		for at := range b {
			for n := range 256 {
				// Of the longest one the bytes of two entries, at either end, stand for those of all.
				if at > 60 && at < len(b)-30 && n > 2 {
					break
				}
				altered := bytes.Clone(b)
				altered[at] = byte(n)
				if holdBytes(t, altered, "a byte altered: "+about) {
					found++
				} else {
					refused++
				}
				holdBytes(t, slices.Insert(bytes.Clone(b), at, byte(n)), "a byte more: "+about)
			}
		}
	}
	if found < 1000 || refused < 10000 {
		t.Errorf("the test itself: %d lists, and %d times none", found, refused)
	}
}

// TestLongerNumbers holds that a number in more bytes than it needs is none.
func TestLongerNumbers(t *testing.T) {
	for about, l := range good() {
		all := parts(l)
		for k, p := range all {
			if p.name != "" {
				continue
			}
			for _, more := range []int{1, 2, 3, 4, 8, 9, 10, 60} {
				b := slices.Concat(joined(all[:k]), p.bytes(more), joined(all[k+1:]))
				refuse(t, b, fmt.Sprint("the number ", k, " in ", more, " bytes more: ", about))
			}
		}
	}
}

// TestOtherNumbers holds each number that is another one, among them those that differ in bits that an int of fewer would not have.
func TestOtherNumbers(t *testing.T) {
	for about, l := range good() {
		all := parts(l)
		for k, p := range all {
			if p.name != "" {
				continue
			}
			for _, n := range []uint64{0, 1, 2, 20, 21, 32, 33, 63, 64, 65, 127, 128, 1023, 1024, 1025, 2048, 2049, 65535, 65536, 65537, p.n + 1, p.n - 1, p.n + 64, p.n + 256} {
				other := slices.Clone(all)
				other[k].n = n
				holdBytes(t, joined(other), fmt.Sprint("the number ", k, " is ", n, ": ", about))
			}
			for _, n := range []uint64{p.n + 1<<16 + 1, p.n + 1<<28, p.n + 1<<31, p.n + 1<<32, p.n + 1<<63, 1<<31 - 1, 1 << 32, math.MaxInt64, math.MaxInt64 - 62, 1 << 63, math.MaxUint64, -p.n - 1} {
				other := slices.Clone(all)
				other[k].n = n
				refuse(t, joined(other), fmt.Sprint("the number ", k, " is ", n, ": ", about))
			}
		}
	}
}

// TestCountsOfWhatIsNotThere holds that what says that it has many entries, or a long name, takes neither time nor memory.
func TestCountsOfWhatIsNotThere(t *testing.T) {
	for _, n := range []uint64{1, 2, 20, 21, 32, 33, 127, 1 << 20, 1<<31 - 1, 1 << 31, 1<<32 - 1, 1 << 32, 1 << 62, math.MaxInt64, 1 << 63, math.MaxUint64} {
		count := part{n: n}.bytes(0)
		for _, ahead := range [][]byte{nil, {1}, {2}, {32}, forged([]dir.Entry{empty("a")})[:1], append([]byte{2}, forged([]dir.Entry{empty("a")})[1:]...)} {
			b := slices.Concat(ahead, count)
			refuse(t, b, fmt.Sprint("the count ", n, ", and nothing behind it"))
			for _, x := range []byte{0, 1, 2, 0x7f, 0x80, 0xff} {
				refuse(t, slices.Concat(b, bytes.Repeat([]byte{x}, 100000)), fmt.Sprint("the count ", n, ", and many bytes behind it"))
			}
			refuse(t, slices.Concat(b, forged(many(31))[1:]), fmt.Sprint("the count ", n, ", and 31 entries behind it"))
		}
	}
	// A number of each of these bytes has no end, or is followed by far too many.
	for x := range 256 {
		refuse(t, bytes.Repeat([]byte{byte(x)}, 100000), "one byte many times")
	}
}

// TestNotValid holds lists that are in the form of an encoding and not valid, of which Encode makes nothing.
func TestNotValid(t *testing.T) {
	for about, l := range map[string][]dir.Entry{
		"33 entries":              many(33),
		"288 entries":             many(288),
		"no name":                 {empty("")},
		"no name, first":          {empty(""), empty("a")},
		"a name of 21 bytes":      {empty("123456789012345678901")},
		"a name of 300 bytes":     {empty(string(make([]byte, 300)))},
		"names downwards":         {empty("b"), empty("a")},
		"a name twice":            {empty("a"), empty("a")},
		"an entry twice":          {entry("a", 65, 5, 2), entry("a", 65, 5, 2)},
		"the longer name first":   {empty("ab"), empty("a")},
		"65,537 bytes":            {entry("a", 65537, 5, 1025)},
		"65,537 in 1,024 sectors": {entry("a", 65537, 5, 1024)},
		"a sector too many":       {entry("a", 64, 5, 2)},
		"a sector too few":        {entry("a", 65, 5, 1)},
		"no sector":               {entry("a", 1, 0, 0)},
		"a sector for no byte":    {entry("a", 0, 0, 1)},
		"a place for no byte":     {entry("a", 0, 5, 0)},
		"behind the device":       {entry("a", 1, 2049, 1)},
		"numbers below 0":         {entry("a", -1, -1, -1)},
		"a length below 0":        {entry("a", -64, 0, 0)},
		"a place below 0":         {entry("a", 1, -1, 1)},
		"a good one ahead":        {entry("a", 1, 1, 1), entry("b", 1, 1, 2)},
	} {
		if dir.May(l) || dir.Encode(l) != nil {
			t.Errorf("P20.1: %s: May or Encode", about)
		}
		refuse(t, forged(l), about)
	}
}

// TestShortStrings holds all strings of up to two bytes, and all of up to seven of those that stand in encodings.
func TestShortStrings(t *testing.T) {
	for n := range 256 {
		if holdBytes(t, []byte{byte(n)}, "one byte") != (n == 0) {
			t.Errorf("the test itself: the one byte %d", n)
		}
		for k := range 256 {
			refuse(t, []byte{byte(n), byte(k)}, "two bytes")
		}
	}
	found := 0
	alphabet := []byte{0, 1, 2, 0x41, 0x80, 0xff}
	for size := 3; size <= 7; size++ {
		b := make([]byte, size)
		var extend func(at int)
		extend = func(at int) {
			if at == size {
				if holdBytes(t, b, "a short string") {
					found++
				}
				return
			}
			for _, x := range alphabet {
				b[at] = x
				extend(at + 1)
			}
		}
		extend(0)
	}
	if found < 50 {
		t.Errorf("the test itself: %d encodings among the short strings", found)
	}
}
