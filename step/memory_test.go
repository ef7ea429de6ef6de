package step_test

import (
	"encoding/binary"
	"fmt"
	"math"
	"slices"
	"testing"

	"diapause/api"
	"diapause/inst"
	"diapause/mem"
	"diapause/state"
	"diapause/step"
)

// access is an instruction that loads or stores.
type access struct{ op, bytes, kind int }

var loads = []access{{0x28, 4, api.I32}, {0x29, 8, api.I64}, {0x2c, 1, api.I32}, {0x2d, 1, api.I32}}

var stores = []access{{0x36, 4, api.I32}, {0x37, 8, api.I64}, {0x3a, 1, api.I32}}

// place is an address, with the offset of the instruction.
type place struct{ at, offset int64 }

// places are such that lie at the edges for a load or a store of so many bytes in a memory of this size, with each of several offsets.
func places(bytes, size int64) []place {
	var l []place
	for _, from := range []int64{0, 1, 3, 100, 249, 252, 255, 256, 257, size - bytes - 1, size - bytes, size - bytes + 1, size - 1, size, size + 1, size + 256,
		1 << 31, 1<<31 - 1, 1<<32 - bytes, 1<<32 - 1, 1 << 32, 1<<32 + 1, 1<<32 + size - bytes, 1<<33 - 2} {
		for _, offset := range []int64{0, 1, 2, 255, 256, size - bytes, size, 1 << 31, 1<<32 - 2, 1<<32 - 1} {
			if at := from - offset; offset >= 0 && at >= 0 && at < 1<<32 {
				l = append(l, place{at, offset})
			}
		}
	}
	return l
}

// bytesOf are those of a memory.
func bytesOf(m *mem.Mem) []byte {
	var all []byte
	for k := range m.Pages() {
		all = append(all, m.Page(k)...)
	}
	return all
}

// one is an instance of a module with these pages, whose function own has a single instruction that stands behind what pushes its operands.
func one(t *testing.T, op int, offset int64, kind int, pages int) *inst.Inst {
	t.Helper()
	m := of(fn{body: "20,0 20,1"})
	m.Types = append(m.Types, api.Type{Params: []int{api.I32, kind}})
	m.Funcs[0] = len(m.Types) - 1
	m.Mem = api.Limits{Has: true, Min: pages, Max: -1}
	m.Datas = nil
	if isLoad := op < 0x36; isLoad {
		m.Codes[0].Body = parsed(fmt.Sprintf("20,0 %x,0,%d 1a", op, offset))
	} else {
		m.Codes[0].Body = parsed(fmt.Sprintf("20,0 20,1 %x,0,%d", op, offset))
	}
	x := made(t, m)
	for k := range pages * 256 {
		x.Mem().Store(int64(k), 1, uint64(k*151+k/256*7+9))
	}
	x.Mem().Clean()
	return x
}

// loaded is what a load reads of these bytes.
func loaded(op int, b []byte) api.Val {
	switch op {
	case 0x28:
		return i32(int64(int32(binary.LittleEndian.Uint32(b))))
	case 0x29:
		return i64(int64(binary.LittleEndian.Uint64(b)))
	case 0x2c:
		return i32(int64(int8(b[0])))
	}
	return i32(int64(b[0]))
}

// TestLoads holds each load at all edges.
func TestLoads(t *testing.T) {
	for _, a := range loads {
		for _, pages := range []int{0, 1, 2, 16} {
			for _, p := range places(int64(a.bytes), int64(pages)*256) {
				x := one(t, a.op, p.offset, api.I32, pages)
				s := begun(t, x, i32(int64(int32(p.at))), i32(0))
				step.Step(x, s)
				want, before := state.Copy(*s), content(x)
				outcome := "trap 4"
				if from, all := p.at+p.offset, bytesOf(x.Mem()); from+int64(a.bytes) <= int64(len(all)) {
					outcome = "more"
					want.Vals[0] = loaded(a.op, all[from:])
					want.Frames[0].Pc++
				}
				if got := told(step.Step(x, s)); got != outcome || !state.Eq(*s, want) || content(x) != before {
					t.Errorf("P14.2: %x at %d + %d of %d pages: got %s, %v, want %s, %v", a.op, p.at, p.offset, pages, got, s.Vals, outcome, want.Vals)
				}
			}
		}
	}
}

// TestStores holds each store at all edges, by values of which each byte is another one.
func TestStores(t *testing.T) {
	for _, a := range stores {
		v := i64(0x123456789abcdef0)
		if a.kind == api.I32 {
			v = i32(-0x12345678)
		}
		for _, pages := range []int{0, 1, 2, 16} {
			for _, p := range places(int64(a.bytes), int64(pages)*256) {
				storeOnce(t, a, v, pages, p)
			}
		}
	}
}

func storeOnce(t *testing.T, a access, v api.Val, pages int, p place) {
	t.Helper()
	x := one(t, a.op, p.offset, a.kind, pages)
	s := begun(t, x, i32(int64(int32(p.at))), v)
	step.Step(x, s)
	step.Step(x, s)
	was, all := state.Copy(*s), bytesOf(x.Mem())
	space := fmt.Sprint(x.Space().Elems(), x.Space().Globals())
	var dirty []int
	from, outcome := p.at+p.offset, "trap 4"
	if from+int64(a.bytes) <= int64(len(all)) {
		outcome = "more"
		for k := range a.bytes {
			all[from+int64(k)] = byte(v.N >> (8 * k))
		}
		was.Vals = nil
		was.Frames[0].Pc++
		dirty = slices.Compact([]int{int(from) / 256, (int(from) + a.bytes - 1) / 256})
	}
	got := told(step.Step(x, s))
	if got != outcome || !state.Eq(*s, was) || fmt.Sprint(x.Space().Elems(), x.Space().Globals()) != space {
		t.Errorf("P14.2: %x at %d + %d of %d pages: got %s, %v, want %s", a.op, p.at, p.offset, pages, got, *s, outcome)
	}
	if !slices.Equal(bytesOf(x.Mem()), all) || !slices.Equal(x.Mem().Dirty(), dirty) {
		t.Errorf("P14.2: %x at %d + %d of %d pages: the memory is another one, dirty are %v", a.op, p.at, p.offset, pages, x.Mem().Dirty())
	}
}

// TestMemoryByHand holds loads and stores by what is written here of a memory with abc at 3, and 81 fe 12 93 at 254.
func TestMemoryByHand(t *testing.T) {
	for _, c := range []struct {
		kind       int
		body, want string
	}{
		{1, "41,0 28,0,3", "done 6513249"}, {1, "41,3 28,2,0", "done 6513249"}, {1, "41,3 2c,0,0", "done 97"}, {1, "41,2 2d,0,3", "done 99"},
		// Across two pages.
		{1, "41,254 28,0,0", "done -1827471743"}, {4, "41,250 29,3,0", "done -7848931370549116928L"}, {4, "41,254 29,0,0", "done 2467495553L"},
		{1, "41,254 2c,0,0", "done -127"}, {1, "41,254 2d,0,0", "done 129"}, {1, "41,0 2c,0,255", "done -2"}, {1, "41,0 2d,0,255", "done 254"},
		{1, "41,256 2c,0,0", "done 18"}, {1, "41,254 41,5 36,0,0 41,254 28,0,0", "done 5"}, {4, "41,252 42,-5 37,0,0 41,252 29,0,0", "done -5L"},
		{1, "41,252 42,-5 37,0,0 41,256 28,0,0", "done -1"}, {1, "41,8 42,-2 37,0,0 41,12 28,0,0", "done -1"},
		{1, "41,16 41,-7 36,0,0 41,16 28,0,0", "done -7"}, {1, "41,16 41,-7 36,0,0 41,16 2d,0,0", "done 249"},
		{1, "41,16 41,4660 3a,0,0 41,16 28,0,0", "done 52"}, {1, "41,3 41,255 3a,0,0 41,3 28,0,0", "done 6513407"},
		// The last bytes, and one beyond.
		{1, "41,508 28,0,0", "done 0"}, {1, "41,509 28,0,0", "trap 4"}, {4, "41,504 29,0,0", "done 0L"}, {4, "41,505 29,0,0", "trap 4"},
		{1, "41,511 2c,0,0", "done 0"}, {1, "41,512 2c,0,0", "trap 4"}, {1, "41,511 2d,0,0", "done 0"}, {1, "41,512 2d,0,0", "trap 4"},
		{1, "41,508 41,9 36,0,0 41,508 28,0,0", "done 9"}, {0, "41,509 41,9 36,0,0", "trap 4"}, {4, "41,504 42,9 37,0,0 41,504 29,0,0", "done 9L"},
		{0, "41,505 42,9 37,0,0", "trap 4"}, {1, "41,511 41,9 3a,0,0 41,511 2d,0,0", "done 9"}, {0, "41,512 41,9 3a,0,0", "trap 4"},
		// Negative as a signed number, and beyond 2^32 together with the offset.
		{1, "41,-1 28,0,0", "trap 4"}, {1, "41,-1 28,0,1", "trap 4"}, {1, "41,-4 2d,0,4", "trap 4"}, {1, "41,-2147483648 2d,0,2147483648", "trap 4"},
		{1, "41,0 28,0,4294967295", "trap 4"}, {1, "41,1 2d,0,4294967295", "trap 4"}, {1, "41,-1 2d,0,4294967295", "trap 4"},
		{0, "41,-1 41,5 3a,0,1", "trap 4"}, {0, "41,1 41,5 36,0,4294967295", "trap 4"}, {0, "41,-8 42,5 37,0,8", "trap 4"},
		{1, "41,-1 2c,0,4", "trap 4"}, {4, "41,-8 29,0,8", "trap 4"},
	} {
		if got := ran(t, of(fn{kind: c.kind, body: c.body})); got != c.want {
			t.Errorf("P14.2: %s: got %s, want %s", c.body, got, c.want)
		}
	}
}

// TestPages holds memory.size and memory.grow of a memory of two pages, with at most four.
func TestPages(t *testing.T) {
	for body, want := range map[string]string{
		"3f": "done 2", "41,0 40": "done 2", "41,1 40": "done 2", "41,2 40": "done 2", "41,3 40": "done -1", "41,-1 40": "done -1",
		"41,2147483647 40": "done -1", "41,-2147483648 40": "done -1", "41,-2 40": "done -1", "41,65536 40": "done -1",
		"41,1 40 1a 3f": "done 3", "41,2 40 1a 3f": "done 4", "41,3 40 1a 3f": "done 2", "41,2 40 1a 41,0 40": "done 4", "41,2 40 1a 41,1 40": "done -1",
		"41,1 40 3f 6a": "done 5", "41,9 41,1 40 6a": "done 11", "41,1 40 1a 41,1 40 1a 41,1 40": "done -1",
		// What was beyond is there, and is zero; what was there stays.
		"41,1 40 1a 41,764 28,0,0": "done 0", "41,1 40 1a 41,765 28,0,0": "trap 4", "41,2 40 1a 41,3 28,0,0": "done 6513249",
		"41,510 28,0,0": "trap 4", "41,1 40 1a 41,510 41,-1 36,0,0 41,512 28,0,0": "done 65535",
	} {
		if got := ran(t, of(fn{kind: 1, body: body})); got != want {
			t.Errorf("P14.2: %s: got %s, want %s", body, got, want)
		}
	}
	for _, c := range []struct{ min, max, n, want, pages int }{
		{0, -1, 16, 0, 16}, {0, -1, 17, -1, 0}, {16, -1, 0, 16, 16}, {16, -1, 1, -1, 16}, {1, 1, 1, -1, 1}, {1, 1, 0, 1, 1}, {3, 9, 6, 3, 9}, {3, 9, 7, -1, 3},
		{3, 60000, 13, 3, 16}, {3, 60000, 14, -1, 3}, {3, 9, -1, -1, 3}, {3, 9, math.MinInt32, -1, 3}, {3, 9, math.MaxInt32, -1, 3},
	} {
		m := of(fn{kind: 2, body: "20,0 40"})
		m.Mem, m.Datas = api.Limits{Has: true, Min: c.min, Max: c.max}, nil
		x := made(t, m)
		s := begun(t, x, i32(int64(c.n)))
		for range 2 {
			step.Step(x, s)
		}
		var dirty []int
		for k := c.min; k < c.pages; k++ {
			dirty = append(dirty, k)
		}
		if standing(s) != fmt.Sprintf("2 %d:", c.want) || x.Mem().Pages() != c.pages || !slices.Equal(x.Mem().Dirty(), dirty) {
			t.Errorf("P14.2: memory.grow by %d from %d of %d: got %s, %d pages, %v", c.n, c.min, c.max, standing(s), x.Mem().Pages(), x.Mem().Dirty())
		}
	}
}
