package dir_test

import (
	"bytes"
	"fmt"
	"slices"
	"strings"
	"testing"

	"diapause/api"
	"diapause/dir"
	"diapause/extent"
)

func entry(name string, n, at, sectors int) dir.Entry {
	return dir.Entry{Name: name, Len: n, Span: extent.Span{At: at, Len: sectors}}
}

// empty is a file of no bytes.
func empty(name string) dir.Entry { return dir.Entry{Name: name} }

// many returns n valid entries, as great as there may be, in the order of their names.
func many(n int) []dir.Entry {
	var l []dir.Entry
	for k := range n {
		l = append(l, entry(fmt.Sprintf("%s%05d", strings.Repeat("n", 15), k), 65536, 2048, 1024))
	}
	return l
}

// good are valid lists, each with something of its own.
func good() map[string][]dir.Entry {
	every := make([]byte, 20)
	for k := range every {
		every[k] = byte(13 * k)
	}
	return map[string][]dir.Entry{
		"no entry":               nil,
		"the example":            {entry("ab", 65, 5, 2)},
		"an empty file":          {empty("a")},
		"a file at the start":    {entry("a", 1, 0, 1)},
		"the greatest entry":     {entry(strings.Repeat("\xff", 20), 65536, 2048, 1024)},
		"names of many bytes":    {empty(string(every)), empty(string(every[1:])), empty(string(every[2:]))},
		"names that are no text": {empty("\x00"), empty("\x7f"), empty("\x80"), empty("\x80\x80"), empty("\xc3\x28"), empty("\xff"), empty("\xff\x00")},
		"names that begin alike": {empty("a"), empty("a\x00"), empty("aa"), empty("aaa"), empty("ab")},
		"numbers at the edges":   {entry("a", 63, 63, 1), entry("b", 64, 64, 1), entry("c", 127*64, 127, 127), entry("d", 128*64, 128, 128), entry("e", 16383, 1, 256), entry("f", 16384, 2047, 256), entry("g", 65535, 2048, 1024)},
		"one place for several":  {entry("a", 130, 7, 3), entry("b", 130, 7, 3), entry("c", 100, 8, 2)},
		"32 entries":             many(32),
	}
}

// sectors counts how many sectors so many bytes take, one by one.
func sectors(n int) int {
	k := 0
	for at := 0; at < n; at += 64 {
		k++
	}
	return k
}

// before tells whether the name a stands ahead of b, byte by byte.
func before(a, b string) bool {
	for k := range len(a) {
		if k == len(b) {
			return false
		}
		if a[k] != b[k] {
			return a[k] < b[k]
		}
	}
	return len(a) < len(b)
}

// may is May, the slow way: each thing that the chapter asks by itself.
func may(l []dir.Entry) bool {
	ok := true
	within := func(n, low, high int) bool {
		if n < low || n > high {
			ok = false
		}
		return ok
	}
	within(len(l), 0, 32)
	for k, e := range l {
		within(len(e.Name), 1, 20)
		for _, other := range l[:k] {
			if !before(other.Name, e.Name) {
				ok = false
			}
		}
		if !within(e.Len, 0, 65536) {
			continue
		}
		n := sectors(e.Len)
		within(e.Span.Len, n, n)
		within(e.Span.At, 0, 2048)
		if n == 0 {
			within(e.Span.At, 0, 0)
		}
	}
	return ok
}

// part is one of those that an encoding consists of: a number, or the bytes of a name.
type part struct {
	n    uint64
	name string
}

// bytes encodes a part; a number takes so many bytes more than it needs.
func (p part) bytes(more int) []byte {
	if p.name != "" {
		return []byte(p.name)
	}
	var b []byte
	n := p.n
	for ; n > 127; n /= 128 {
		b = append(b, byte(n%128+128))
	}
	for ; more > 0; more-- {
		b = append(b, byte(n%128+128))
		n = 0
	}
	return append(b, byte(n))
}

// parts are those of the encoding of a list, whether it is valid or not.
func parts(l []dir.Entry) []part {
	all := []part{{n: uint64(len(l))}}
	for _, e := range l {
		all = append(all, part{n: uint64(len(e.Name))})
		if e.Name != "" {
			all = append(all, part{name: e.Name})
		}
		all = append(all, part{n: uint64(e.Len)}, part{n: uint64(e.Span.At)}, part{n: uint64(e.Span.Len)})
	}
	return all
}

func joined(all []part) []byte {
	var b []byte
	for _, p := range all {
		b = append(b, p.bytes(0)...)
	}
	return b
}

// forged is what the encoding of a list would be, if it were valid.
func forged(l []dir.Entry) []byte { return joined(parts(l)) }

// scanner goes through bytes one by one; ok is false from the first one on that is not there or not as it must be.
type scanner struct {
	b  []byte
	ok bool
}

func (s *scanner) next() byte {
	if len(s.b) == 0 {
		s.ok = false
		return 0
	}
	x := s.b[0]
	s.b = s.b[1:]
	return x
}

// number reads a number below 2^28, which is greater than all that stand in a directory.
func (s *scanner) number() int {
	n := 0
	for unit := 1; unit < 1<<28; unit *= 128 {
		x := s.next()
		n += int(x%128) * unit
		if x < 128 {
			if x == 0 && unit > 1 {
				s.ok = false
			}
			return n
		}
	}
	s.ok = false
	return 0
}

func (s *scanner) name() string {
	var b []byte
	for n := s.number(); n > 0 && s.ok; n-- {
		b = append(b, s.next())
	}
	return string(b)
}

// decoded is Decode, the slow way.
func decoded(b []byte) ([]dir.Entry, bool) {
	s := &scanner{b, true}
	var l []dir.Entry
	for n := s.number(); n > 0 && s.ok; n-- {
		var e dir.Entry
		e.Name = s.name()
		e.Len, e.Span.At, e.Span.Len = s.number(), s.number(), s.number()
		l = append(l, e)
	}
	if !s.ok || len(s.b) > 0 || !may(l) {
		return nil, false
	}
	return l, true
}

// hold holds May, Encode and Decode of a list against the slow way, and returns whether it is valid.
func hold(t *testing.T, l []dir.Entry, about string) bool {
	t.Helper()
	was := slices.Clone(l)
	ok := may(l)
	if dir.May(l) != ok {
		t.Errorf("P20.1: %s: May(%v): got %t", about, l, !ok)
	}
	b := dir.Encode(l)
	switch {
	case !ok && b != nil:
		t.Errorf("P20.1: %s: Encode(%v), which is not valid: got %x", about, l, b)
	case ok && !bytes.Equal(b, forged(l)):
		t.Errorf("P20.1: %s: Encode(%v): got %x, want %x", about, l, b, forged(l))
	}
	if holdBytes(t, forged(l), about) != ok {
		t.Errorf("P20.1: %s: the form of %v and May do not tell the same", about, l)
	}
	if !slices.Equal(l, was) {
		t.Errorf("P0.3: %s: May or Encode changed %v", about, was)
	}
	return ok
}

// holdBytes holds Decode of b against the slow way, and returns whether it found a list.
func holdBytes(t *testing.T, b []byte, about string) bool {
	t.Helper()
	was := bytes.Clone(b)
	want, ok := decoded(b)
	got, err := dir.Decode(b)
	switch {
	case !bytes.Equal(b, was):
		t.Errorf("P0.3: %s: Decode changed %x", about, was)
	case !ok && (err != api.ErrCorrupt || got != nil):
		t.Errorf("P20.1: %s: Decode(%x): got %v, %d, want nil, ErrCorrupt", about, b, got, err)
	case ok && (err != api.OK || !slices.Equal(got, want)):
		t.Errorf("P20.1: %s: Decode(%x): got %v, %d, want %v, OK", about, b, got, err, want)
	case ok && !bytes.Equal(dir.Encode(got), b):
		t.Errorf("P20.1: %s: Decode(%x): got %v, whose Encode is %x", about, b, got, dir.Encode(got))
	}
	return ok
}

// refuse holds that b is no list's.
func refuse(t *testing.T, b []byte, about string) {
	t.Helper()
	if l, err := dir.Decode(b); err != api.ErrCorrupt || l != nil {
		t.Errorf("P20.1: %s: Decode(%x): got %v, %d, want nil, ErrCorrupt", about, b[:min(len(b), 2000)], l, err)
	}
}
