package mem_test

import (
	"bytes"
	"math"
	"slices"
	"testing"

	"diapause/api"
	"diapause/mem"
)

// two are the limits of the chapter's example.
var two = api.Limits{Has: true, Min: 2, Max: 4}

// TestExample goes through the chapter's example.
func TestExample(t *testing.T) {
	m := mem.New(two)
	if !m.Store(508, 4, 0x1234) || m.Store(509, 4, 0x1234) || m.Store(0, 2, 0x1234) {
		t.Error("P10.1: Store at 508, at 509, of 2 bytes")
	}
	if got := m.Dirty(); !slices.Equal(got, []int{1}) {
		t.Errorf("P10.1: Dirty after Store at 508: got %v", got)
	}
	m.Clean()
	if got := m.Dirty(); len(got) != 0 {
		t.Errorf("P10.1: Dirty after Clean: got %v", got)
	}
	if !m.Store(254, 4, 5) || !slices.Equal(m.Dirty(), []int{0, 1}) {
		t.Errorf("P10.1: Dirty after Store at 254: got %v", m.Dirty())
	}
	for _, x := range []struct{ n, want int64 }{{3, -1}, {1, 2}, {2, -1}} {
		if got := m.Grow(x.n); got != x.want {
			t.Errorf("P10.1: Grow(%d): got %d, want %d", x.n, got, x.want)
		}
	}
}

func TestNew(t *testing.T) {
	for _, least := range []int{math.MinInt, -1 << 32, -17, -1, 17, 18, 32, 256, 1 << 32, 1<<56 + 1, math.MaxInt} {
		for _, most := range []int{-1, 0, 16, 17, least} {
			if m := mem.New(api.Limits{Has: true, Min: least, Max: most}); m != nil {
				t.Errorf("P10.1: New of the Min %d and the Max %d: a memory of %d pages", least, most, m.Pages())
			}
		}
	}
	for least := range 17 {
		for _, most := range []int{math.MinInt, -2, -1, 0, 1, least - 1, least, 15, 16, 17, 65536, math.MaxInt} {
			newBoth(t, api.Limits{Has: true, Min: least, Max: most}, "a memory of any Max")
			if m := mem.New(api.Limits{Min: least, Max: most}); m != nil {
				t.Errorf("P10.1: New without Has, of the Min %d and the Max %d: a memory of %d pages", least, most, m.Pages())
			}
		}
	}
}

// TestNewIsZero holds that the bytes are zero, and clean, and that all can be loaded.
func TestNewIsZero(t *testing.T) {
	for least := range 17 {
		d := newBoth(t, api.Limits{Has: true, Min: least, Max: -1}, "a new memory")
		for at := range int64(256*least + 1) {
			for _, n := range []int{1, 4, 8} {
				d.load(at, n)
			}
		}
		d.same("Load")
		if got := d.m.Dirty(); len(got) != 0 {
			t.Errorf("P10.1: Dirty after New of %d pages: got %v", least, got)
		}
	}
}

// sizes are those of Grow: all that may fit, some beyond, and such that a sum or a product with them would go round.
func sizes() []int64 {
	l := []int64{math.MinInt64, math.MinInt64 + 1, -1 << 32, -256, -17, -16, -2, -1, 255, 256, 1 << 8, 1 << 16, 1 << 31, 1<<32 - 1,
		1 << 32, 1<<32 + 1, 1 << 55, 1 << 56, 1<<56 + 1, 1 << 62, 1<<63 - 18, 1<<63 - 17, 1<<63 - 16, 1<<63 - 2, math.MaxInt64}
	for n := range int64(35) {
		l = append(l, n)
	}
	return l
}

// TestGrow holds Grow by each size, of each Min and Max, against the plain copy.
func TestGrow(t *testing.T) {
	for _, least := range []int{0, 1, 2, 8, 15, 16} {
		for _, most := range []int{math.MinInt, math.MinInt + 1, -17, -2, -1, 0, 1, 2, 3, 8, 9, 15, 16, 17, 32, 65536, math.MaxInt} {
			l := api.Limits{Has: true, Min: least, Max: most}
			for _, n := range sizes() {
				d := newBoth(t, l, "Grow of a new memory")
				if d.grow(n) != -1 {
					d.grow(1)
				}
				d.grow(0)
			}
		}
	}
}

// TestGrowUpTo holds what Grow returns, with the edges of the chapter.
func TestGrowUpTo(t *testing.T) {
	type call struct{ n, want int64 }
	for _, x := range []struct {
		about      string
		least, max int
		calls      []call
	}{
		{"no Max", 0, -1, []call{{17, -1}, {16, 0}, {0, 16}, {1, -1}}},
		{"no Max, page by page", 13, -1, []call{{1, 13}, {1, 14}, {1, 15}, {1, -1}, {0, 16}}},
		{"a Max of 16", 15, 16, []call{{2, -1}, {1, 15}, {1, -1}}},
		{"a Max of 17", 15, 17, []call{{2, -1}, {1, 15}, {1, -1}}},
		{"a Max of 65536", 0, 65536, []call{{math.MaxInt64, -1}, {17, -1}, {16, 0}, {1, -1}}},
		{"the greatest Max", 16, math.MaxInt, []call{{1, -1}, {0, 16}, {math.MaxInt64, -1}}},
		{"a Max of 4", 2, 4, []call{{-1, -1}, {math.MinInt64, -1}, {3, -1}, {0, 2}, {2, 2}, {1, -1}, {0, 4}}},
		{"a Max of Min", 3, 3, []call{{1, -1}, {0, 3}}},
		{"a Max of 0", 0, 0, []call{{1, -1}, {0, 0}}},
		{"a Max below Min", 3, 2, []call{{1, -1}, {0, -1}}},
		{"a Max below -1", 0, -2, []call{{1, -1}, {0, -1}}},
		{"the least Max", 16, math.MinInt, []call{{1, -1}, {0, -1}}},
	} {
		d := newBoth(t, api.Limits{Has: true, Min: x.least, Max: x.max}, x.about)
		for k, c := range x.calls {
			if got := d.grow(c.n); got != c.want {
				t.Errorf("P10.1: %s: call %d: Grow(%d): want %d, not %d", x.about, k, c.n, c.want, got)
			}
		}
	}
}

// TestGrowAppends holds that the pages there were stay, and that the appended ones are zero, dirty, and there for all calls.
func TestGrowAppends(t *testing.T) {
	d := newBoth(t, api.Limits{Has: true, Min: 2, Max: -1}, "pages appended")
	d.fill()
	d.clean()
	d.load(512, 1)
	d.store(509, 4, math.MaxUint64)
	d.grow(3)
	if got := d.m.Dirty(); !slices.Equal(got, []int{2, 3, 4}) {
		t.Errorf("P10.1: Dirty after Grow(3) of 2 pages: got %v", got)
	}
	if got, ok := d.m.Load(508, 8); !ok || got>>32 != 0 || got == 0 {
		t.Errorf("P10.1: Load over the old end: got %#x, %t", got, ok)
	}
	d.store(509, 4, math.MaxUint64)
	d.store(256*5-8, 8, 0x1122334455667788)
	d.setPage(3, mixed(77))
	d.clean()
	d.grow(0)
	if got := d.m.Dirty(); len(got) != 0 {
		t.Errorf("P10.1: Dirty after Grow(0): got %v", got)
	}
	d.grow(11)
	d.grow(1)
	d.load(256*16-8, 8)
	d.load(256*16-7, 8)
}

// places are addresses: around the beginning and the end of each page, and such that a sum with them would go round.
func places() []int64 {
	l := []int64{math.MinInt64, math.MinInt64 + 7, -1 << 32, -4096, -257, 1 << 31, 1<<32 - 1, 1 << 32, 1<<32 + 256, 1 << 62, math.MaxInt64 - 8}
	for k := range int64(8) {
		l = append(l, math.MaxInt64-k)
	}
	for page := range int64(18) {
		for k := int64(-9); k <= 9; k++ {
			l = append(l, 256*page+k)
		}
	}
	return l
}

// lengths are the n of Load and Store, with such that there are none of.
func lengths() []int {
	l := []int{1, 4, 8, math.MinInt, -1 << 32, -8, -4, -1, 12, 16, 32, 64, 255, 256, 257, 1<<32 + 1, 1<<32 + 4, 1 << 32, math.MaxInt}
	for n := range 12 {
		l = append(l, n)
	}
	return l
}

func TestLoad(t *testing.T) {
	for _, pages := range []int{0, 1, 2, 16} {
		d := newBoth(t, api.Limits{Has: true, Min: pages, Max: -1}, "Load")
		d.fill()
		d.clean()
		for _, at := range places() {
			for _, n := range lengths() {
				d.load(at, n)
			}
		}
		d.same("Load")
	}
}

func TestStore(t *testing.T) {
	for _, pages := range []int{0, 1, 3} {
		d := newBoth(t, api.Limits{Has: true, Min: pages, Max: -1}, "Store")
		d.fill()
		for k, at := range places() {
			for _, n := range lengths() {
				d.clean()
				d.store(at, n, 0x9e3779b97f4a7c15*uint64(k+n))
				d.load(at, n)
			}
		}
	}
}

// TestEnds holds which bytes exist, at the first and the last address and beyond by one.
func TestEnds(t *testing.T) {
	for _, pages := range []int{1, 2, 5, 16} {
		m := mem.New(api.Limits{Has: true, Min: pages, Max: 16})
		end := int64(256 * pages)
		for _, n := range []int{1, 4, 8} {
			for _, x := range []struct {
				at int64
				ok bool
			}{{-1, false}, {0, true}, {end - int64(n), true}, {end - int64(n) + 1, false}, {end - 1, n == 1}, {end, false}, {math.MaxInt64, false}} {
				stored := m.Store(x.at, n, 0xff)
				got, ok := m.Load(x.at, n)
				if stored != x.ok || ok != x.ok || ok && got != 0xff || !ok && got != 0 {
					t.Errorf("P10.1: of %d pages, %d bytes at %d: Store %t, then Load %#x, %t", pages, n, x.at, stored, got, ok)
				}
			}
		}
	}
}

// TestLowestFirst holds which byte is the first one, and that the bits above the lowest n bytes go nowhere.
func TestLowestFirst(t *testing.T) {
	const x = 0x8877665544332211
	for _, at := range []int64{8, 252, 253, 254, 255, 256} {
		for _, n := range []int{1, 4, 8} {
			d := newBoth(t, two, "the lowest byte first")
			d.setPage(0, bytes.Repeat([]byte{0xee}, 256))
			d.setPage(1, bytes.Repeat([]byte{0xee}, 256))
			d.store(at, n, x)
			for k := int64(-8); k < 16; k++ {
				want := uint64(0xee)
				if k >= 0 && k < int64(n) {
					want = uint64(k+1) * 0x11
				}
				if got, ok := d.m.Load(at+k, 1); got != want || !ok {
					t.Errorf("P10.1: Store of %d bytes at %d: the byte %d: got %#x, %t, want %#x", n, at, k, got, ok, want)
				}
			}
			want := uint64(x) & (math.MaxUint64 >> (64 - 8*n))
			if got, ok := d.m.Load(at, n); got != want || !ok {
				t.Errorf("P10.1: Load of %d bytes at %d: got %#x, %t, want %#x", n, at, got, ok, want)
			}
		}
	}
}

// TestEachBit holds that each bit of a number is stored and loaded in its place alone.
func TestEachBit(t *testing.T) {
	m := mem.New(two)
	for bit := range 64 {
		for _, x := range []uint64{1 << bit, ^uint64(1 << bit)} {
			for _, n := range []int{1, 4, 8} {
				want := x & (math.MaxUint64 >> (64 - 8*n))
				if got, ok := m.Load(250, n); !m.Store(250, n, x) || !ok {
					t.Errorf("P10.1: Store of %#x over %#x: false", x, got)
				}
				if got, _ := m.Load(250, n); got != want {
					t.Errorf("P10.1: Load of %d bytes of %#x: got %#x", n, x, got)
				}
			}
		}
	}
}

func TestPages(t *testing.T) {
	d := newBoth(t, api.Limits{Has: true, Min: 3, Max: 5}, "pages")
	for _, i := range []int{2, 0, 1} {
		d.setPage(i, mixed(i))
		d.load(int64(256*i), 8)
		d.load(int64(256*i+248), 8)
	}
	d.fill()
	d.clean()
	for _, i := range []int{math.MinInt, -1 << 56, -256, -3, -2, -1, 3, 4, 5, 15, 16, 17, 255, 1 << 32, 1 << 56, 1<<56 + 1, math.MaxInt} {
		d.setPage(i, mixed(1))
		if got := d.m.Page(i); got != nil {
			t.Errorf("P10.1: Page(%d) of 3 pages: got %x", i, got)
		}
	}
	for _, b := range [][]byte{nil, {}, {1}, mixed(1)[:255], mixed(1)[1:], append(mixed(1), 1), bytes.Repeat(mixed(1), 2), make([]byte, 1<<20)} {
		for _, i := range []int{-1, 0, 1, 2, 3} {
			d.setPage(i, b)
		}
	}
	if got := d.m.Dirty(); len(got) != 0 {
		t.Errorf("P10.1: Dirty after SetPage that failed: got %v", got)
	}
	d.grow(2)
	d.setPage(4, mixed(4))
	d.setPage(5, mixed(4))
	if got := d.m.Page(4); !bytes.Equal(got, mixed(4)) {
		t.Errorf("P10.1: Page(4) after SetPage: got %x", got)
	}
}

// TestDirty holds what Dirty returns after each kind of call.
func TestDirty(t *testing.T) {
	page := mixed(3)
	for _, x := range []struct {
		about string
		call  func(*mem.Mem)
		want  []int
	}{
		{"nothing", func(m *mem.Mem) {}, nil},
		{"Load", func(m *mem.Mem) { m.Load(254, 4) }, nil},
		{"Page", func(m *mem.Mem) { m.Page(1) }, nil},
		{"Pages and Dirty", func(m *mem.Mem) { m.Pages(); m.Dirty() }, nil},
		{"Store in a page", func(m *mem.Mem) { m.Store(256, 8, 1) }, []int{1}},
		{"Store at a page's end", func(m *mem.Mem) { m.Store(248, 8, 1) }, []int{0}},
		{"Store of a page's last byte", func(m *mem.Mem) { m.Store(511, 1, 1) }, []int{1}},
		{"Store over two pages, by one byte", func(m *mem.Mem) { m.Store(253, 4, 1) }, []int{0, 1}},
		{"Store over two pages, but for one byte", func(m *mem.Mem) { m.Store(511, 8, 1) }, []int{1, 2}},
		{"Store of what is there", func(m *mem.Mem) { m.Store(0, 1, 0) }, []int{0}},
		{"Store in descending order", func(m *mem.Mem) { m.Store(513, 1, 1); m.Store(3, 1, 1) }, []int{0, 2}},
		{"Store twice", func(m *mem.Mem) { m.Store(300, 1, 1); m.Store(301, 1, 1) }, []int{1}},
		{"Store beyond", func(m *mem.Mem) { m.Store(765, 4, 1) }, nil},
		{"Store ahead", func(m *mem.Mem) { m.Store(-1, 4, 1) }, nil},
		{"Store of two bytes", func(m *mem.Mem) { m.Store(0, 2, 1) }, nil},
		{"SetPage", func(m *mem.Mem) { m.SetPage(2, page) }, []int{2}},
		{"SetPage to what is there", func(m *mem.Mem) { m.SetPage(1, make([]byte, 256)) }, []int{1}},
		{"SetPage in descending order", func(m *mem.Mem) { m.SetPage(2, page); m.SetPage(0, page) }, []int{0, 2}},
		{"SetPage of no page", func(m *mem.Mem) { m.SetPage(3, page) }, nil},
		{"SetPage to few bytes", func(m *mem.Mem) { m.SetPage(2, page[:255]) }, nil},
		{"Grow", func(m *mem.Mem) { m.Grow(2) }, []int{3, 4}},
		{"Grow page by page", func(m *mem.Mem) { m.Grow(1); m.Grow(1) }, []int{3, 4}},
		{"Grow(0)", func(m *mem.Mem) { m.Grow(0) }, nil},
		{"Grow beyond", func(m *mem.Mem) { m.Grow(3) }, nil},
		{"Grow below 0", func(m *mem.Mem) { m.Grow(-1) }, nil},
		{"Grow, and Store", func(m *mem.Mem) { m.Grow(1); m.Store(700, 1, 1) }, []int{2, 3}},
		{"Store, and Clean", func(m *mem.Mem) { m.Store(254, 4, 1); m.Clean() }, nil},
		{"Grow, and Clean", func(m *mem.Mem) { m.Grow(2); m.Clean() }, nil},
		{"SetPage, and Clean twice", func(m *mem.Mem) { m.SetPage(0, page); m.Clean(); m.Clean() }, nil},
		{"Clean, and Store", func(m *mem.Mem) { m.Store(0, 1, 1); m.Clean(); m.Store(600, 1, 1) }, []int{2}},
		{"Clean, and Store in a page appended", func(m *mem.Mem) { m.Grow(2); m.Clean(); m.Store(256*4, 1, 1) }, []int{4}},
	} {
		m := mem.New(api.Limits{Has: true, Min: 3, Max: 5})
		x.call(m)
		if got := m.Dirty(); !slices.Equal(got, x.want) {
			t.Errorf("P10.1: Dirty after %s: got %v, want %v", x.about, got, x.want)
		}
	}
}

// TestClean holds that Clean changes nothing beside Dirty.
func TestClean(t *testing.T) {
	d := newBoth(t, two, "Clean")
	d.fill()
	d.clean()
	d.grow(2)
	d.clean()
	d.clean()
	d.grow(1)
	d.store(1020, 4, 0x01020304)
	d.clean()
	d.load(1020, 4)
}

// TestOfNone holds what the chapter says of a nil *Mem, for all arguments, and that no call makes it panic.
func TestOfNone(t *testing.T) {
	var none *mem.Mem
	for range 2 {
		for _, n := range sizes() {
			if got := none.Grow(n); got != -1 {
				t.Errorf("P10.1: of nil: Grow(%d): got %d", n, got)
			}
		}
		for _, at := range places() {
			for _, n := range lengths() {
				x, ok := none.Load(at, n)
				if stored := none.Store(at, n, 7); x != 0 || ok || stored {
					t.Errorf("P10.1: of nil: %d bytes at %d: Load %#x, %t, Store %t", n, at, x, ok, stored)
				}
			}
		}
		for _, i := range []int{math.MinInt, -1, 0, 1, 15, 16, math.MaxInt} {
			if got := none.Page(i); got != nil || none.SetPage(i, mixed(1)) || none.SetPage(i, nil) {
				t.Errorf("P10.1: of nil: Page(%d): got %x, or SetPage true", i, got)
			}
		}
		if got := none.Dirty(); none.Pages() != 0 || got != nil {
			t.Errorf("P10.1: of nil: Pages %d, Dirty %v", none.Pages(), got)
		}
		none.Clean()
	}
}

// TestOfTheZeroMem holds P0.1 for a memory that New has not made.
func TestOfTheZeroMem(t *testing.T) {
	d := &both{t, "the zero Mem", new(mem.Mem), newPlain(api.Limits{Has: true})}
	d.same("nothing")
	for _, at := range places() {
		d.load(at, 1)
		d.store(at, 8, 7)
	}
	d.setPage(0, mixed(1))
	d.grow(1)
	d.grow(0)
	d.clean()
}
