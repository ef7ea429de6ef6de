package dir_test

import (
	"bytes"
	"maps"
	"math"
	"math/rand/v2"
	"slices"
	"testing"

	"diapause/dir"
)

// maker makes lists in any way.
type maker struct{ *rand.Rand }

// name returns any bytes, of few different ones mostly, so that names often begin alike.
func (m maker) name() string {
	b := make([]byte, 1+m.IntN(1+m.IntN(20)))
	few := m.IntN(3) > 0
	for k := range b {
		b[k] = byte(m.Uint32())
		if few {
			b[k] &= 0x81
		}
	}
	return string(b)
}

// number returns any number from 0 to most, small ones and those close to most more often.
func (m maker) number(most int) int {
	switch m.IntN(3) {
	case 0:
		return m.IntN(min(most, 70) + 1)
	case 1:
		return most - m.IntN(min(most, 70)+1)
	}
	return m.IntN(most + 1)
}

// list returns a valid list.
func (m maker) list() []dir.Entry {
	names := map[string]bool{}
	for range m.IntN(33) {
		names[m.name()] = true
	}
	var l []dir.Entry
	for _, name := range slices.Sorted(maps.Keys(names)) {
		e := empty(name)
		if m.IntN(4) > 0 {
			n := m.number(65536)
			e.Len, e.Span.Len = n, sectors(n)
		}
		if e.Len > 0 {
			e.Span.At = m.number(2048)
		}
		l = append(l, e)
	}
	return l
}

// spoiled returns the list with one thing of one entry changed, which may be valid all the same.
func (m maker) spoiled(l []dir.Entry) []dir.Entry {
	l = slices.Clone(l)
	if len(l) == 0 {
		return []dir.Entry{empty("")}
	}
	e := &l[m.IntN(len(l))]
	step := []int{1, -1, 2, -2, 64, -64, 1 << 32, math.MaxInt, math.MinInt, -2 * e.Len}[m.IntN(10)]
	switch m.IntN(6) {
	case 0:
		e.Name = m.name()
	case 1:
		e.Name += m.name()
	case 2:
		e.Len += step
	case 3:
		e.Span.At += step
	case 4:
		e.Span.Len += step
	default:
		*e = l[m.IntN(len(l))]
	}
	return l
}

// TestManyLists holds many lists, lists that differ from these in one thing, and their encodings with some bytes altered.
func TestManyLists(t *testing.T) {
	valid, spoiled := 0, 0
	for seed := range uint64(4000) {
		m := maker{rand.New(rand.NewPCG(seed, 20))}
		l := m.list()
		holdAs(t, l, true, "a list made up")
		for k, e := range l {
			finds(t, l, e.Name, k)
		}
		for range 5 {
			if hold(t, m.spoiled(l), "a list with one thing changed") {
				valid++
			} else {
				spoiled++
			}
		}
		b := dir.Encode(l)
		for range 20 {
			altered := bytes.Clone(b)
			for range 1 + m.IntN(3) {
				altered[m.IntN(len(b))] ^= 1 << m.IntN(8)
			}
			holdBytes(t, altered, "some bits turned")
		}
		if t.Failed() {
			return
		}
	}
	if valid < 1000 || spoiled < 1000 {
		t.Errorf("the test itself: of those changed %d are valid, %d not", valid, spoiled)
	}
}

// TestAnyBytes holds strings of any bytes, of small ones, and of those that stand in encodings.
func TestAnyBytes(t *testing.T) {
	m := maker{rand.New(rand.NewPCG(20, 1))}
	pool := slices.Concat(forged(many(3)), forged([]dir.Entry{entry("ab", 65, 5, 2), empty("b")}), make([]byte, 60), bytes.Repeat([]byte{1, 2}, 30))
	for range 40000 {
		b := make([]byte, m.IntN(1<<m.IntN(9)))
		kind := m.IntN(3)
		for k := range b {
			switch kind {
			case 0:
				b[k] = byte(m.Uint32())
			case 1:
				b[k] = byte(m.IntN(4))
			case 2:
				b[k] = pool[m.IntN(len(pool))]
			}
		}
		holdBytes(t, b, "any bytes")
	}
	for _, n := range []byte{0, 1, 2, 0x7f, 0x80, 0xff} {
		refuse(t, bytes.Repeat([]byte{n}, 3000000), "a very long string")
	}
}
