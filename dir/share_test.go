package dir_test

import (
	"bytes"
	"slices"
	"sync"
	"testing"

	"diapause/api"
	"diapause/dir"
)

// spoil writes x over all of a list, with what is spare behind it.
func spoil[E any](l []E, x E) {
	l = l[:cap(l)]
	for k := range l {
		l[k] = x
	}
}

// amid returns a list in the midst of a longer one, that longer one, and a copy of the longer one.
func amid[E any](l []E, x E) ([]E, []E, []E) {
	all := slices.Concat([]E{x, x}, l, []E{x, x, x})
	return all[2 : 2+len(l)], all, slices.Clone(all)
}

// TestStays holds P0.3: what is handed in stays as it is, with what lies about it and is spare behind it.
func TestStays(t *testing.T) {
	other := entry("other", 3, 4, 5)
	lists := good()
	lists["33 entries"] = many(33)
	lists["names downwards"] = []dir.Entry{empty("b"), empty("a")}
	lists["no name"] = []dir.Entry{empty("")}
	for about, whole := range lists {
		l, all, was := amid(whole, other)
		dir.May(l)
		dir.Encode(l)
		dir.Find(l, "n")
		dir.Find(l, "")
		if !slices.Equal(all, was) {
			t.Errorf("P0.3: %s: May, Encode or Find changed what was given, or what lies about it", about)
		}
		for _, text := range [][]byte{forged(whole), forged(whole)[1:], append(forged(whole), 0)} {
			b, bs, were := amid(text, 0xaa)
			dir.Decode(b)
			if !bytes.Equal(bs, were) {
				t.Errorf("P0.3: %s: Decode changed what was given, or what lies about it", about)
			}
		}
	}
}

// TestKeepsNothing holds P0.3: what is told does not change with what was handed in.
func TestKeepsNothing(t *testing.T) {
	for about, want := range good() {
		l := slices.Clone(want)
		b := dir.Encode(l)
		spoil(l, entry("spoiled", 1, 2, 3))
		if !bytes.Equal(b, forged(want)) {
			t.Errorf("P0.3: %s: what Encode told changed with the list", about)
		}
		// The bytes of the names are those that could be the same memory.
		got, err := dir.Decode(b)
		spoil(b, 0xaa)
		if err != api.OK || !slices.Equal(got, want) {
			t.Errorf("P0.3: %s: what Decode told changed with the bytes: %v", about, got)
		}
	}
}

// TestToldApart holds P0.3: what is told is nobody else's, with what is spare behind it.
func TestToldApart(t *testing.T) {
	for about, want := range good() {
		text := forged(want)
		a, b := dir.Encode(want), dir.Encode(want)
		spoil(a, 0xaa)
		if !bytes.Equal(b, text) || !bytes.Equal(dir.Encode(want), text) {
			t.Errorf("P0.3: %s: Encode changed with what it told before", about)
		}
		_ = append(b, 0xbb)
		_ = append(b[:0], 0xcc)
		k, _ := dir.Decode(text)
		l, _ := dir.Decode(text)
		spoil(k, entry("spoiled", 1, 2, 3))
		if !slices.Equal(l, want) {
			t.Errorf("P0.3: %s: Decode changed with what it told before", about)
		}
		_ = append(l, entry("more", 1, 2, 3))
		_ = append(l[:0], entry("less", 1, 2, 3))
		if m, err := dir.Decode(text); err != api.OK || !slices.Equal(m, want) || !bytes.Equal(text, forged(want)) {
			t.Errorf("P0.3: %s: Decode keeps what it told", about)
		}
	}
}

// TestSameAgain holds P0.5: what is told hangs on the arguments alone, whatever was asked before.
func TestSameAgain(t *testing.T) {
	for range 3 {
		for about, l := range good() {
			b := dir.Encode(l)
			dir.Encode(many(33))
			dir.Decode(forged(many(33)))
			if got, err := dir.Decode(b); err != api.OK || !slices.Equal(got, l) || !dir.May(l) || !bytes.Equal(dir.Encode(l), b) {
				t.Errorf("P0.5: %s: not the same again", about)
			}
		}
	}
}

// TestAtOnce holds that calls at the same time do not touch one another.
func TestAtOnce(t *testing.T) {
	var group sync.WaitGroup
	for k := range 8 {
		group.Go(func() {
			l := many(32 - k)
			for n := range 100 {
				b := dir.Encode(l)
				got, err := dir.Decode(b)
				if err != api.OK || !slices.Equal(got, l) || dir.Find(l, l[n%len(l)].Name) != n%len(l) {
					t.Errorf("P0.5: %d entries, beside others: %d", len(l), err)
				}
			}
		})
	}
	group.Wait()
}
