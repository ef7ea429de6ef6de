package dir_test

import (
	"bytes"
	"fmt"
	"math"
	"slices"
	"strings"
	"testing"

	"diapause/api"
	"diapause/dir"
)

// TestExample is the chapter's example.
func TestExample(t *testing.T) {
	l := []dir.Entry{entry("ab", 65, 5, 2)}
	want := []byte{0x01, 0x02, 'a', 'b', 0x41, 0x05, 0x02}
	if b := dir.Encode(l); !bytes.Equal(b, want) {
		t.Errorf("P20.1: Encode: got %x, want %x", b, want)
	}
	if got, err := dir.Decode(want); err != api.OK || !slices.Equal(got, l) {
		t.Errorf("P20.1: Decode: got %v, %d", got, err)
	}
	if !dir.May(l) || dir.Find(l, "ab") != 0 {
		t.Error("P20.1: May or Find of the example")
	}
}

// holdAs holds a list of which the test itself says whether it is valid.
func holdAs(t *testing.T, l []dir.Entry, ok bool, about string) {
	t.Helper()
	if hold(t, l, about) != ok {
		t.Errorf("the test itself: %s: %v is valid: %t", about, l, !ok)
	}
}

// TestGood holds all the valid lists.
func TestGood(t *testing.T) {
	for about, l := range good() {
		holdAs(t, l, true, about)
	}
}

// TestOfNoEntry holds the list without entries, of which there are two.
func TestOfNoEntry(t *testing.T) {
	for _, l := range [][]dir.Entry{nil, {}, many(3)[:0]} {
		holdAs(t, l, true, "no entry")
		if b := dir.Encode(l); !bytes.Equal(b, []byte{0}) {
			t.Errorf("P20.1: Encode of no entry: got %x", b)
		}
	}
	if l, err := dir.Decode([]byte{0}); len(l) != 0 || err != api.OK {
		t.Errorf("P20.1: Decode of 00: got %v, %d", l, err)
	}
}

// TestCounts holds how many entries there may be.
func TestCounts(t *testing.T) {
	for _, n := range []int{1, 2, 31, 32} {
		holdAs(t, many(n), true, fmt.Sprint(n, " entries"))
	}
	for _, n := range []int{33, 34, 64, 127, 128, 256, 288} {
		holdAs(t, many(n), false, fmt.Sprint(n, " entries"))
	}
	// Of these the slow way would take too long.
	if l := many(65536 + 32); dir.May(l) || dir.Encode(l) != nil {
		t.Error("P20.1: May or Encode of far too many entries")
	}
}

// TestNames holds how long a name may be, whatever its bytes are.
func TestNames(t *testing.T) {
	for x := range 256 {
		one := string([]byte{byte(x)})
		for _, n := range []int{0, 1, 2, 19, 20, 21, 22, 127, 128, 256, 276} {
			name := strings.Repeat(one, n)
			about := fmt.Sprintf("a name of %d times %02x", n, x)
			holdAs(t, []dir.Entry{empty(name)}, n >= 1 && n <= 20, about)
			if n < 20 && x < 255 {
				holdAs(t, []dir.Entry{empty(name), empty("\xff" + one)}, n >= 1, about+", and another one")
			}
		}
	}
	// These have other numbers of letters than of bytes.
	for name, ok := range map[string]bool{strings.Repeat("\u00e4", 10): true, strings.Repeat("\u00e4", 11): false, strings.Repeat("\U0001f600", 5): true, "n" + strings.Repeat("\U0001f600", 5): false} {
		holdAs(t, []dir.Entry{empty(name)}, ok, "a name of wide letters")
	}
	holdAs(t, []dir.Entry{empty("a"), empty("")}, false, "no name behind another one")
	holdAs(t, []dir.Entry{empty(""), empty("")}, false, "no names")
	holdAs(t, []dir.Entry{empty("a"), empty(strings.Repeat("b", 21)), empty("c")}, false, "too long a name in the midst")
}

// ascending are names in the order of their bytes, which is not that of their lengths, nor of their letters, nor of bytes with signs.
func ascending() []string {
	return []string{"\x00", "\x00\x00", "\x00\x01", "\x01", " ", "10", "9", "B", "a", "a\x00", "aB", "aa", "aaa", "ab", "b", "\x7f", "\x80", "\xc3\x84", "\xc3\xa4", "\xef\xbf\xbd", "\xf4\x8f\xbf\xbf", "\xff", "\xff\xff"}
}

// TestOrder holds each two names, in this order and in the other one, and each that stands there twice.
func TestOrder(t *testing.T) {
	names := ascending()
	var all []dir.Entry
	for i, a := range names {
		all = append(all, empty(a))
		for j, b := range names {
			holdAs(t, []dir.Entry{empty(a), empty(b)}, i < j, "two names")
			holdAs(t, []dir.Entry{entry(a, 64, j, 1), entry(b, 65, i, 2)}, i < j, "two names, with other numbers")
		}
	}
	holdAs(t, all, true, "all names")
	for k := range all[1:] {
		turned := slices.Clone(all)
		turned[k], turned[k+1] = turned[k+1], turned[k]
		holdAs(t, turned, false, "two names turned")
		twice := slices.Insert(slices.Clone(all), k, all[k])
		holdAs(t, twice, false, "a name twice")
		twice[k].Len, twice[k].Span = 1, entry("", 1, 9, 1).Span
		holdAs(t, twice, false, "a name twice, with other numbers")
		holdAs(t, slices.Concat(all[k+1:], all[:k+1]), false, "the last names first")
		apart := append(slices.Clone(all), all[k])
		holdAs(t, apart, false, "a name twice, far apart")
	}
	slices.Reverse(all)
	holdAs(t, all, false, "the names downwards")
}

// TestOrders holds all orders of four names, of which one is in order.
func TestOrders(t *testing.T) {
	valid := 0
	names := []string{"a", "aa", "b", "\xff"}
	for n := range 256 {
		var l []dir.Entry
		for k := range 4 {
			l = append(l, empty(names[n>>(2*k)&3]))
		}
		if hold(t, l, "four names") {
			valid++
		}
	}
	if valid != 1 {
		t.Errorf("the test itself: %d orders are valid", valid)
	}
}

// lengths are those that a file may have, with their sectors, and those that it may not have, with less than none.
func lengths() map[int]int {
	l := map[int]int{
		0: 0, 1: 1, 2: 1, 63: 1, 64: 1, 65: 2, 127: 2, 128: 2, 129: 3, 300: 5, 4096: 64, 4097: 65, 65471: 1023, 65472: 1023, 65473: 1024, 65535: 1024, 65536: 1024,
		65537: -1, 65599: -1, 65600: -1, 131072: -1, 1<<16 + 1<<32: -1, 1 << 32: -1, 1<<32 + 1: -1, 1 << 62: -1,
	}
	for k := range 66 {
		l[-1-k] = -1
		l[math.MinInt+k] = -1
		l[math.MaxInt-k] = -1
	}
	return l
}

// TestLengths holds each length, in as many sectors as it asks, and in more and fewer.
func TestLengths(t *testing.T) {
	for n, want := range lengths() {
		// The sum goes round for the greatest numbers, as it could in the program.
		sectors := (n + 63) / 64
		for _, k := range []int{sectors, sectors - 1, sectors + 1, n, n / 64, -sectors, sectors + 1<<32, sectors + 1<<16, 0, 1, 2, 1024, 1025, -1, math.MinInt, math.MaxInt} {
			about := fmt.Sprint(n, " bytes in ", k, " sectors")
			ok := k == want && want >= 0
			at := 5
			if k == 0 {
				at = 0
			}
			holdAs(t, []dir.Entry{entry("a", n, at, k)}, ok, about)
			holdAs(t, []dir.Entry{empty("a"), entry("b", n, at, k), empty("c")}, ok, about+", in the midst")
			hold(t, []dir.Entry{entry("a", n, 5-at, k)}, about)
		}
	}
}

// TestPlaces holds where a file may begin, with sectors and without them.
func TestPlaces(t *testing.T) {
	for _, at := range []int{0, 1, 5, 63, 64, 127, 128, 1024, 2047, 2048, 2049, 4096, -1, -5, -2048, 1 << 32, 1<<32 + 5, -1 << 32, math.MinInt, math.MaxInt} {
		for n, k := range map[int]int{0: 0, 1: 1, 64: 1, 65: 2, 65536: 1024} {
			about := fmt.Sprint(n, " bytes from ", at, " on")
			ok := at == 0 || k > 0 && at > 0 && at <= 2048
			holdAs(t, []dir.Entry{entry("a", n, at, k)}, ok, about)
			holdAs(t, []dir.Entry{entry("a", 1, 1, 1), entry("b", n, at, k), empty("c")}, ok, about+", in the midst")
		}
	}
}

// TestEachSmallEntry holds all small numbers of an entry.
func TestEachSmallEntry(t *testing.T) {
	for n := -2; n < 200; n++ {
		for k := -2; k < 6; k++ {
			for at := -2; at < 3; at++ {
				hold(t, []dir.Entry{entry("small", n, at, k)}, "small numbers")
			}
		}
	}
}

// TestOneWrong holds that one entry that is not valid, wherever it stands, makes a list of many not valid.
func TestOneWrong(t *testing.T) {
	for _, n := range []int{1, 2, 3, 32} {
		for k := range n {
			for wrong, spoil := range map[string]func(e *dir.Entry){
				"a length":         func(e *dir.Entry) { e.Len++ },
				"another length":   func(e *dir.Entry) { e.Len -= 64 },
				"no length":        func(e *dir.Entry) { e.Len = 0 },
				"a place":          func(e *dir.Entry) { e.Span.At++ },
				"a place below":    func(e *dir.Entry) { e.Span.At = -1 },
				"sectors":          func(e *dir.Entry) { e.Span.Len++ },
				"fewer sectors":    func(e *dir.Entry) { e.Span.Len-- },
				"no name":          func(e *dir.Entry) { e.Name = "" },
				"too long a name":  func(e *dir.Entry) { e.Name += "n" },
				"all of an entry":  func(e *dir.Entry) { *e = dir.Entry{} },
				"a place for none": func(e *dir.Entry) { e.Len, e.Span.Len, e.Span.At = 0, 0, 1 },
			} {
				l := many(n)
				spoil(&l[k])
				holdAs(t, l, false, fmt.Sprint(wrong, " of ", k, " of ", n))
			}
		}
	}
}

// finds holds Find of a name.
func finds(t *testing.T, l []dir.Entry, name string, want int) {
	t.Helper()
	was := slices.Clone(l)
	if got := dir.Find(l, name); got != want {
		t.Errorf("P20.1: Find of %q: got %d, want %d, in %v", name, got, want, l)
	}
	if !slices.Equal(l, was) {
		t.Errorf("P0.3: Find changed %v", was)
	}
}

// TestFind holds each name of each valid list, and names that are not there, close to those that are.
func TestFind(t *testing.T) {
	for _, l := range good() {
		names := map[string]int{}
		for k, e := range l {
			names[e.Name] = k
		}
		ask := []string{"", "x", "\x00", "\xff", "zz", strings.Repeat("n", 20), strings.Repeat("n", 21)}
		for _, e := range l {
			ask = append(ask, e.Name, e.Name+"\x00", e.Name+"a", e.Name[1:], e.Name[:len(e.Name)-1], strings.ToUpper(e.Name), "a"+e.Name)
		}
		for _, name := range ask {
			want, ok := names[name]
			if !ok {
				want = -1
			}
			finds(t, l, name, want)
		}
	}
	for _, l := range [][]dir.Entry{nil, {}, many(2)[:0]} {
		for _, name := range []string{"", "a", many(1)[0].Name} {
			finds(t, l, name, -1)
		}
	}
}

// TestFindInAnyList holds Find in lists that are not valid: not in order, too long, with names too long and with none.
func TestFindInAnyList(t *testing.T) {
	var l []dir.Entry
	for _, name := range ascending() {
		l = append(l, empty(name))
	}
	slices.Reverse(l)
	l = append(l, entry("other", -1, -1, -1), empty(strings.Repeat("long", 100)))
	finds(t, l, "", -1)
	l = append(l, empty(""))
	for k, e := range l {
		finds(t, l, e.Name, k)
		finds(t, append(l[k:], l[:k]...), e.Name, 0)
	}
	long := many(5000)
	for _, k := range []int{0, 1, 31, 32, 33, 2500, 4999} {
		finds(t, long, long[k].Name, k)
	}
	finds(t, long, "n", -1)
	finds(t, []dir.Entry{empty("a"), empty("b"), empty("b"), empty("a")}, "b", 1)
	finds(t, []dir.Entry{empty("a"), empty("b"), empty("b"), empty("a")}, "a", 0)
}
