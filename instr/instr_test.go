package instr_test

import (
	"bytes"
	"encoding/hex"
	"fmt"
	"math"
	"math/big"
	"slices"
	"strings"
	"testing"

	"diapause/api"
	"diapause/instr"
)

// rows are what stands behind each opcode, written out from the chapter's table, a letter a part: r a result, a and b an
// alignment and an offset, i a number, l a list, 0 the byte 00, s and S a constant of 32 or 64 bits.
func rows() map[int]string {
	all := map[int]string{}
	row := func(parts string, ops ...int) {
		for _, op := range ops {
			all[op] = parts
		}
	}
	span := func(first, last int) {
		for op := first; op <= last; op++ {
			all[op] = ""
		}
	}
	row("", 0x00, 0x01, 0x05, 0x0b, 0x0f, 0x1a, 0x1b)
	span(0x45, 0x4f)
	span(0x50, 0x5a)
	span(0x67, 0x78)
	span(0x79, 0x8a)
	row("", 0xa7, 0xac, 0xad)
	row("r", 0x02, 0x03, 0x04)
	row("i", 0x0c, 0x0d, 0x10, 0x20, 0x21, 0x22, 0x23, 0x24)
	row("li", 0x0e)
	row("i0", 0x11)
	row("ab", 0x28, 0x29, 0x2c, 0x2d, 0x36, 0x37, 0x3a)
	row("0", 0x3f, 0x40)
	row("s", 0x41)
	row("S", 0x42)
	return all
}

// within tells whether n is from low to high.
func within(n, low, high int64) bool {
	return n >= low && n <= high
}

// inRange tells whether n may stand in the part of this letter.
func inRange(part rune, n int64) bool {
	switch part {
	case 'r':
		return n == 0 || n == api.I32 || n == api.I64
	case 'i':
		return within(n, 0, 1000)
	case 'a':
		return within(n, 0, 3)
	case 'b':
		return within(n, 0, 1<<32-1)
	case 's':
		return within(n, -1<<31, 1<<31-1)
	}
	return true
}

// may is May, the slow way: each field that no part uses is zero.
func may(all map[int]string, x api.Instr) bool {
	parts, ok := all[x.Op]
	if !ok {
		return false
	}
	if !strings.Contains(parts, "b") && x.B != 0 || !strings.Contains(parts, "l") && len(x.L) > 0 || len(x.L) > 50 {
		return false
	}
	if !strings.ContainsAny(parts, "riasS") && x.A != 0 {
		return false
	}
	for _, part := range parts {
		if part == 'b' && !inRange(part, x.B) || strings.ContainsRune("riasS", part) && !inRange(part, x.A) {
			return false
		}
	}
	for _, n := range x.L {
		if !inRange('i', int64(n)) {
			return false
		}
	}
	return true
}

// number is the shortest encoding of n: of groups of seven bits, as many as hold it.
func number(n int64, signed bool) []byte {
	holds := func(k uint) bool {
		low, high := big.NewInt(0), new(big.Int).Lsh(big.NewInt(1), 7*k)
		if signed {
			high.Rsh(high, 1)
			low.Neg(high)
		}
		return big.NewInt(n).Cmp(low) >= 0 && big.NewInt(n).Cmp(high) < 0
	}
	k := uint(1)
	for !holds(k) {
		k++
	}
	var b []byte
	for i := range k {
		b = append(b, byte(n>>(7*i))&127)
		if i < k-1 {
			b[i] += 128
		}
	}
	return b
}

// encode is the encoding of an instruction, the slow way.
func encode(all map[int]string, x api.Instr) []byte {
	b := []byte{byte(x.Op)}
	for _, part := range all[x.Op] {
		switch part {
		case 'r':
			b = append(b, []byte{0x40, 0x7f, 0x7e}[x.A])
		case 'i', 'a':
			b = append(b, number(x.A, false)...)
		case 'b':
			b = append(b, number(x.B, false)...)
		case 'l':
			b = append(b, number(int64(len(x.L)), false)...)
			for _, n := range x.L {
				b = append(b, number(int64(n), false)...)
			}
		case '0':
			b = append(b, 0)
		default:
			b = append(b, number(x.A, true)...)
		}
	}
	return b
}

// readNumber is the number at the beginning of b, the slow way: what its bytes say, if its encoding is those bytes.
func readNumber(b []byte, bits uint, signed bool) (int64, int, api.Errno) {
	n := new(big.Int)
	for k, x := range b {
		if k == int(bits+6)/7 {
			break
		}
		n.Add(n, new(big.Int).Lsh(big.NewInt(int64(x&127)), uint(7*k)))
		if x >= 128 {
			continue
		}
		if signed && x&64 != 0 {
			n.Sub(n, new(big.Int).Lsh(big.NewInt(1), uint(7*k+7)))
		}
		low, high := big.NewInt(0), new(big.Int).Lsh(big.NewInt(1), bits)
		if signed {
			high.Rsh(high, 1)
			low.Neg(high)
		}
		if n.Cmp(low) < 0 || n.Cmp(high) >= 0 || !bytes.Equal(number(n.Int64(), signed), b[:k+1]) {
			return 0, 0, api.ErrForm
		}
		return n.Int64(), k + 1, api.OK
	}
	if len(b) >= int(bits+6)/7 {
		return 0, 0, api.ErrForm
	}
	return 0, 0, api.ErrMore
}

// readByte is the number that the byte at the beginning of b stands for.
func readByte(b []byte, meant map[byte]int64) (int64, int, api.Errno) {
	if len(b) == 0 {
		return 0, 0, api.ErrMore
	}
	n, ok := meant[b[0]]
	if !ok {
		return 0, 0, api.ErrForm
	}
	return n, 1, api.OK
}

// readPart is the number of a part of this letter at the beginning of b.
func readPart(part rune, b []byte) (n int64, k int, err api.Errno) {
	switch part {
	case 'r':
		return readByte(b, map[byte]int64{0x40: 0, 0x7f: 1, 0x7e: 2})
	case '0':
		return readByte(b, map[byte]int64{0: 0})
	case 's':
		return readNumber(b, 32, true)
	case 'S':
		return readNumber(b, 64, true)
	}
	n, k, err = readNumber(b, 32, false)
	if err == api.OK && !inRange(part, n) {
		return 0, 0, api.ErrForm
	}
	return n, k, err
}

// readList is the list at the beginning of b.
func readList(b []byte) (l []int, at int, err api.Errno) {
	count, at, err := readNumber(b, 32, false)
	if err != api.OK {
		return nil, 0, err
	}
	if count > 50 {
		return nil, 0, api.ErrForm
	}
	for range count {
		n, k, err := readPart('i', b[at:])
		if err != api.OK {
			return nil, 0, err
		}
		l = append(l, int(n))
		at += k
	}
	return l, at, api.OK
}

// decode is Get, the slow way: part by part, as the opcode's row says.
func decode(all map[int]string, b []byte) (api.Instr, int, api.Errno) {
	if len(b) == 0 {
		return api.Instr{}, 0, api.ErrMore
	}
	parts, ok := all[int(b[0])]
	if !ok {
		return api.Instr{}, 0, api.ErrForm
	}
	x, at := api.Instr{Op: int(b[0])}, 1
	for _, part := range parts {
		var n int64
		var k int
		var err api.Errno
		switch part {
		case 'l':
			x.L, k, err = readList(b[at:])
		case 'b':
			n, k, err = readPart(part, b[at:])
			x.B = n
		case '0':
			_, k, err = readPart(part, b[at:])
		default:
			n, k, err = readPart(part, b[at:])
			x.A = n
		}
		if err != api.OK {
			return api.Instr{}, 0, err
		}
		at += k
	}
	return x, at, api.OK
}

// same holds all fields against each other; an L that is nil is the same as an empty one.
func same(a, b api.Instr) bool {
	return a.Op == b.Op && a.A == b.A && a.B == b.B && slices.Equal(a.L, b.L)
}

// compare holds Get of b against the slow way.
func compare(t *testing.T, all map[int]string, b []byte) {
	t.Helper()
	want, wantK, wantErr := decode(all, b)
	if x, k, err := instr.Get(b); !same(x, want) || k != wantK || err != wantErr {
		t.Errorf("P5.1: Get %.40x (%d bytes): got %v, %d, %d; want %v, %d, %d", b, len(b), x, k, err, want, wantK, wantErr)
	}
}

func unhex(t *testing.T, s string) []byte {
	t.Helper()
	b, err := hex.DecodeString(strings.ReplaceAll(s, " ", ""))
	if err != nil {
		t.Fatal(err)
	}
	return b
}

// numbers are those at which something changes: the edges of the ranges, of the lengths of encodings, and of int64.
func numbers() []int64 {
	l := []int64{math.MinInt64, math.MinInt64 + 1, math.MaxInt64 - 1, math.MaxInt64, 300, 1<<32 + 1000, 1<<32 + 3, 1<<16 + 2, 1<<63 - 1000}
	for n := int64(-10); n <= 10; n++ {
		l = append(l, n)
	}
	for n := int64(998); n <= 1002; n++ {
		l = append(l, n, -n)
	}
	for _, shift := range []int{6, 7, 8, 13, 14, 16, 20, 21, 27, 28, 31, 32, 33, 34, 35, 41, 42, 48, 49, 55, 56, 62} {
		for d := int64(-2); d <= 2; d++ {
			l = append(l, 1<<shift+d, -(1<<shift)+d)
		}
	}
	return l
}

// lists are Ls that may be, and others.
func lists() [][]int {
	l := [][]int{nil, {}, {0}, {1}, {1000}, {999}, {1001}, {-1}, {math.MinInt}, {math.MaxInt}, {1 << 32}, {0, 1000}, {1000, 0}, {127, 128, 129}, {128}, {0, 1001}, {0, -1, 0}, {1001, 0}, {1, 2, 3, 4, 1<<32 + 1}}
	for _, k := range []int{2, 49, 50, 51, 52, 100, 127, 128, 178, 256, 306, 1000} {
		for _, n := range []int{0, 5, 127, 128, 1000, 1001, -1} {
			l = append(l, slices.Repeat([]int{n}, k))
		}
	}
	late := make([]int, 50)
	late[49] = 1001
	rising := make([]int, 50)
	for k := range rising {
		rising[k] = 20*k + 7
	}
	return append(l, late, rising)
}

// samples are instructions of every row, with what is at the edges of their fields and what is beyond them.
func samples() []api.Instr {
	var l []api.Instr
	for op := -300; op <= 600; op++ {
		for _, n := range []int64{0, 1, 2, 3, 4, -1, 64, 127, 128, 300, 1000, 1001, -1 << 31, 1<<31 - 1, 1 << 31, 1<<32 - 1, 1 << 32, math.MinInt64, math.MaxInt64} {
			l = append(l, api.Instr{Op: op, A: n}, api.Instr{Op: op, B: n}, api.Instr{Op: op, A: 3, B: n})
		}
	}
	for op := range rows() {
		for _, n := range numbers() {
			l = append(l, api.Instr{Op: op, A: n}, api.Instr{Op: op, B: n}, api.Instr{Op: op, A: 1, B: n}, api.Instr{Op: op, A: 4, B: n}, api.Instr{Op: op, A: n, B: 1}, api.Instr{Op: op, A: n, B: 1<<32 - 1})
		}
		for _, list := range lists() {
			l = append(l, api.Instr{Op: op, L: list}, api.Instr{Op: op, A: 1000, L: list}, api.Instr{Op: op, A: 1001, L: list}, api.Instr{Op: op, A: -1, L: list}, api.Instr{Op: op, B: 1, L: list}, api.Instr{Op: op, A: 2, B: 300, L: list})
		}
		for _, far := range []int{1 << 8, 1 << 16, 1 << 31, 1 << 32, -1 << 8, -1 << 32, math.MinInt} {
			l = append(l, api.Instr{Op: op + far}, api.Instr{Op: op + far, A: 2})
		}
	}
	return append(l, api.Instr{Op: math.MinInt}, api.Instr{Op: math.MaxInt})
}

// valid are the samples that are instructions.
func valid() []api.Instr {
	all := rows()
	return slices.DeleteFunc(samples(), func(x api.Instr) bool { return !may(all, x) })
}

func TestMay(t *testing.T) {
	many := make([]int, 51)
	for _, c := range []struct {
		x    api.Instr
		want bool
	}{
		{api.Instr{}, true},
		{api.Instr{Op: 0x01}, true},
		{api.Instr{Op: 0x01, A: 1}, false},
		{api.Instr{Op: 0x6a}, true},
		{api.Instr{Op: 0x6a, A: -1}, false},
		{api.Instr{Op: 0xad, B: 1}, false},
		{api.Instr{Op: 0x0b, L: []int{0}}, false},
		{api.Instr{Op: 0x0b, L: []int{}}, true},
		{api.Instr{Op: 0x02, A: 2}, true},
		{api.Instr{Op: 0x02, A: 3}, false},
		{api.Instr{Op: 0x04, A: -1}, false},
		{api.Instr{Op: 0x03, A: 0x40}, false},
		{api.Instr{Op: 0x03, A: 0x7f}, false},
		{api.Instr{Op: 0x0c, A: 1000}, true},
		{api.Instr{Op: 0x0c, A: 1001}, false},
		{api.Instr{Op: 0x24, A: -1}, false},
		{api.Instr{Op: 0x11, A: 1000}, true},
		{api.Instr{Op: 0x11, A: 1001}, false},
		{api.Instr{Op: 0x0e}, true},
		{api.Instr{Op: 0x0e, A: 1000, L: many[:50]}, true},
		{api.Instr{Op: 0x0e, L: many}, false},
		{api.Instr{Op: 0x0e, L: []int{0, 1000}}, true},
		{api.Instr{Op: 0x0e, L: []int{0, 1001}}, false},
		{api.Instr{Op: 0x0e, L: []int{-1, 0}}, false},
		{api.Instr{Op: 0x0e, B: 1}, false},
		{api.Instr{Op: 0x28, A: 3, B: 1<<32 - 1}, true},
		{api.Instr{Op: 0x28, A: 4}, false},
		{api.Instr{Op: 0x3a, A: -1}, false},
		{api.Instr{Op: 0x3a, A: 3}, true},
		{api.Instr{Op: 0x37, B: 1 << 32}, false},
		{api.Instr{Op: 0x37, B: -1}, false},
		{api.Instr{Op: 0x3f}, true},
		{api.Instr{Op: 0x40, A: 1}, false},
		{api.Instr{Op: 0x41, A: 1<<31 - 1}, true},
		{api.Instr{Op: 0x41, A: 1 << 31}, false},
		{api.Instr{Op: 0x41, A: -1 << 31}, true},
		{api.Instr{Op: 0x41, A: -1<<31 - 1}, false},
		{api.Instr{Op: 0x42, A: math.MinInt64}, true},
		{api.Instr{Op: 0x42, A: math.MaxInt64}, true},
		{api.Instr{Op: 0x42, B: 1}, false},
		{api.Instr{Op: 0x06}, false},
		{api.Instr{Op: 0x2a}, false},
		{api.Instr{Op: 0xff}, false},
		{api.Instr{Op: 0x100}, false},
		{api.Instr{Op: -1}, false},
	} {
		if got := instr.May(c.x); got != c.want {
			t.Errorf("P5.1: May %v: got %t", c.x, got)
		}
	}
}

func TestMayOfEverySample(t *testing.T) {
	all := rows()
	for _, x := range samples() {
		if got, want := instr.May(x), may(all, x); got != want {
			t.Errorf("P5.1: May %v: got %t, want %t", x, got, want)
		}
	}
}

// TestEveryOpcode counts the instructions: 68 that nothing stands behind, and 24 others.
func TestEveryOpcode(t *testing.T) {
	all := rows()
	count := 0
	for op := range 256 {
		_, want := all[op]
		if got := instr.May(api.Instr{Op: op}); got != want {
			t.Errorf("P5.1: May of the opcode %02x: got %t", op, got)
		}
		if want {
			count++
		}
	}
	if count != 7+29*2+3+3+8+1+1+7+2+2 {
		t.Errorf("P5.1: %d opcodes", count)
	}
}

// different are instructions that differ from one another in one field or in several, whether they may be or not.
func different() []api.Instr {
	l := []api.Instr{{}}
	for _, n := range []int{1, -1, 0x0e, 1 << 32, math.MinInt, math.MaxInt} {
		l = append(l, api.Instr{Op: n}, api.Instr{A: int64(n)}, api.Instr{B: int64(n)}, api.Instr{L: []int{n}}, api.Instr{Op: n, A: 1, B: 2, L: []int{3}})
	}
	for _, list := range [][]int{{0}, {0, 0}, {1, 2}, {2, 1}, {1, 2, 3}, {1, 2, 4}, {0, 2}, {2}, {1, 1}, {2, 2}, {1, 1, 2}, {1, 2, 2}, make([]int, 50), make([]int, 51)} {
		l = append(l, api.Instr{Op: 0x0e, A: 5, L: list}, api.Instr{Op: 0x0e, A: 5, B: 1, L: list}, api.Instr{Op: 0x0c, A: 5, L: list}, api.Instr{Op: 0x0e, A: 6, L: list})
	}
	return l
}

func TestEq(t *testing.T) {
	for k, a := range different() {
		for j, b := range different() {
			if got := instr.Eq(a, b); got != (k == j) {
				t.Errorf("P5.1: Eq %v, %v: got %t", a, b, got)
			}
		}
	}
	empty, spare := api.Instr{Op: 0x0e, A: 1, L: []int{}}, api.Instr{Op: 0x0e, A: 1, L: make([]int, 0, 9)}
	for _, b := range []api.Instr{empty, spare, {Op: 0x0e, A: 1}} {
		for _, a := range []api.Instr{empty, spare, {Op: 0x0e, A: 1}} {
			if !instr.Eq(a, b) {
				t.Errorf("P0.4: Eq %v, %v of nil and empty lists", a, b)
			}
		}
		if instr.Eq(b, api.Instr{Op: 0x0e, A: 1, L: []int{0}}) || instr.Eq(api.Instr{Op: 0x0e, A: 1, L: []int{0}}, b) {
			t.Errorf("P5.1: Eq of %v and one with an element", b)
		}
	}
	short := []int{4, 5, 6}
	if !instr.Eq(api.Instr{L: short[:2]}, api.Instr{L: []int{4, 5}}) {
		t.Error("P5.1: Eq looks behind a list")
	}
}

func TestPut(t *testing.T) {
	for _, c := range []struct {
		x    api.Instr
		want string
	}{
		{api.Instr{Op: 0x0e, A: 3, L: []int{0, 1000}}, "0e 02 00 e8 07 03"},
		{api.Instr{Op: 0x28, A: 2, B: 300}, "28 02 ac 02"},
		{api.Instr{Op: 0x41, A: -1}, "41 7f"},
		{api.Instr{}, "00"},
		{api.Instr{Op: 0x1b}, "1b"},
		{api.Instr{Op: 0x8a}, "8a"},
		{api.Instr{Op: 0x02}, "02 40"},
		{api.Instr{Op: 0x03, A: api.I32}, "03 7f"},
		{api.Instr{Op: 0x04, A: api.I64}, "04 7e"},
		{api.Instr{Op: 0x0c, A: 127}, "0c 7f"},
		{api.Instr{Op: 0x0d, A: 128}, "0d 80 01"},
		{api.Instr{Op: 0x10, A: 1000}, "10 e8 07"},
		{api.Instr{Op: 0x24, A: 64}, "24 40"},
		{api.Instr{Op: 0x0e}, "0e 00 00"},
		{api.Instr{Op: 0x0e, A: 1, L: []int{}}, "0e 00 01"},
		{api.Instr{Op: 0x0e, A: 1000, L: make([]int, 50)}, "0e 32" + strings.Repeat("00", 50) + "e8 07"},
		{api.Instr{Op: 0x11, A: 300}, "11 ac 02 00"},
		{api.Instr{Op: 0x3a, B: math.MaxUint32}, "3a 00 ff ff ff ff 0f"},
		{api.Instr{Op: 0x2d, A: 3}, "2d 03 00"},
		{api.Instr{Op: 0x3f}, "3f 00"},
		{api.Instr{Op: 0x40}, "40 00"},
		{api.Instr{Op: 0x41, A: 64}, "41 c0 00"},
		{api.Instr{Op: 0x41, A: math.MinInt32}, "41 80 80 80 80 78"},
		{api.Instr{Op: 0x41, A: math.MaxInt32}, "41 ff ff ff ff 07"},
		{api.Instr{Op: 0x42, A: -65}, "42 bf 7f"},
		{api.Instr{Op: 0x42, A: math.MinInt64}, "42 80 80 80 80 80 80 80 80 80 7f"},
		{api.Instr{Op: 0x42, A: math.MaxInt64}, "42 ff ff ff ff ff ff ff ff ff 00"},
	} {
		want := unhex(t, c.want)
		if got := instr.Put(nil, c.x); !bytes.Equal(got, want) {
			t.Errorf("P5.1: Put %v: got %x, want %x", c.x, got, want)
		}
		if x, k, err := instr.Get(want); !same(x, c.x) || k != len(want) || err != api.OK {
			t.Errorf("P5.1: Get %x: got %v, %d, %d", want, x, k, err)
		}
	}
}

// TestPutOfEverySample encodes behind bytes of several lengths, with and without spare capacity.
func TestPutOfEverySample(t *testing.T) {
	all := rows()
	spare := append(make([]byte, 0, 200), 0x80, 0x0e)
	for _, x := range valid() {
		want := encode(all, x)
		for _, b := range [][]byte{nil, {}, {0}, {0xff, 0x80, 0x41}, spare, spare[:0]} {
			if got := instr.Put(b, x); !bytes.Equal(got, slices.Concat(b, want)) {
				t.Errorf("P5.1: Put %v behind %x: got %x, want %x", x, b, got, want)
			}
		}
	}
	long := bytes.Repeat([]byte{0x28, 0x80, 0}, 100000)
	for op := range all {
		x := api.Instr{Op: op}
		if got := instr.Put(long, x); !bytes.Equal(got, slices.Concat(long, encode(all, x))) {
			t.Errorf("P5.1: Put %v behind many bytes", x)
		}
	}
}

// TestPutOfWhatIsNone holds Put against P0.1 and P0.3 where the document gives its result no meaning.
func TestPutOfWhatIsNone(t *testing.T) {
	all := rows()
	for _, x := range samples() {
		if may(all, x) {
			continue
		}
		whole := []byte{5, 5, 5, 5, 5, 5, 5, 5}
		fill(instr.Put(whole[:2], x), 6)
		if !bytes.Equal(whole, []byte{5, 5, 5, 5, 5, 5, 5, 5}) {
			t.Errorf("P0.3: Put of %v changed its argument: %x", x, whole)
		}
		instr.Put(nil, x)
	}
	instr.Put(nil, api.Instr{Op: 0x0e, L: make([]int, 1<<20)})
	instr.Eq(api.Instr{L: make([]int, 1<<20)}, api.Instr{L: make([]int, 1<<20+1)})
	if instr.May(api.Instr{Op: 0x0e, L: make([]int, 1<<20)}) {
		t.Error("P5.1: May of a very long L")
	}
}

func TestGet(t *testing.T) {
	for _, c := range []struct {
		b    string
		want api.Instr
		k    int
	}{
		{"00", api.Instr{}, 1},
		{"00 00", api.Instr{}, 1},
		{"6a ff ff", api.Instr{Op: 0x6a}, 1},
		{"02 40 0b", api.Instr{Op: 0x02}, 2},
		{"02 7f", api.Instr{Op: 0x02, A: api.I32}, 2},
		{"04 7e 80", api.Instr{Op: 0x04, A: api.I64}, 2},
		{"0c e8 07 07", api.Instr{Op: 0x0c, A: 1000}, 3},
		{"10 00 80", api.Instr{Op: 0x10}, 2},
		{"0e 02 00 e8 07 03 05", api.Instr{Op: 0x0e, A: 3, L: []int{0, 1000}}, 6},
		{"0e 00 05 01", api.Instr{Op: 0x0e, A: 5}, 3},
		{"0e 32" + strings.Repeat("07", 51), api.Instr{Op: 0x0e, A: 7, L: slices.Repeat([]int{7}, 50)}, 53},
		{"11 05 00 01", api.Instr{Op: 0x11, A: 5}, 3},
		{"28 02 ac 02 00", api.Instr{Op: 0x28, A: 2, B: 300}, 4},
		{"36 03 ff ff ff ff 0f", api.Instr{Op: 0x36, A: 3, B: math.MaxUint32}, 7},
		{"3f 00 00", api.Instr{Op: 0x3f}, 2},
		{"40 00", api.Instr{Op: 0x40}, 2},
		{"41 7f 7f", api.Instr{Op: 0x41, A: -1}, 2},
		{"41 80 80 80 80 78", api.Instr{Op: 0x41, A: math.MinInt32}, 6},
		{"41 ff ff ff ff 07", api.Instr{Op: 0x41, A: math.MaxInt32}, 6},
		{"42 c0 00", api.Instr{Op: 0x42, A: 64}, 3},
		{"42 80 80 80 80 08", api.Instr{Op: 0x42, A: 1 << 31}, 6},
		{"42 80 80 80 80 80 80 80 80 80 7f", api.Instr{Op: 0x42, A: math.MinInt64}, 11},
	} {
		x, k, err := instr.Get(unhex(t, c.b))
		if !same(x, c.want) || k != c.k || err != api.OK {
			t.Errorf("P5.1: Get %s: got %v, %d, %d; want %v, %d", c.b, x, k, err, c.want, c.k)
		}
	}
}

// TestGetErrors holds the errors, also those of several faults at once, of which the first part's counts.
func TestGetErrors(t *testing.T) {
	for want, faults := range map[api.Errno][]string{
		api.ErrMore: {
			"", "02", "04", "0c", "0c 80", "0c ff ff ff ff", "0e", "0e 80", "0e 00", "0e 02 00", "0e 01 80", "0e 01 01", "0e 01 01 80",
			"0e 32", "0e 32" + strings.Repeat("00", 50), "11", "11 80", "11 05", "28", "28 80", "28 03", "28 03 80", "28 00 ff ff ff ff",
			"3f", "40", "41", "41 80", "41 ff ff ff ff", "42", "42 ff", "42 80 80 80 80 80 80 80 80 80",
		},
		api.ErrForm: {
			"06", "07", "43", "44", "2a", "2b", "2e", "38", "39", "3b", "25", "1c", "8b", "a6", "a8", "ab", "ae", "ff", "ff 80", "06 00 00",
			"02 41", "02 00", "02 01", "03 7d", "04 c0 00", "04 80", "04 ff",
			"0c e9 07", "0c 80 00", "0c 80 80 80 80 10", "0c 80 80 80 80 80", "0d ff ff ff ff 0f", "24 e9 07", "10 e8 87 00",
			"0e 33", "0e 33 00", "0e 80 00", "0e b2 00", "0e 80 01", "0e ff ff ff ff 0f", "0e 80 80 80 80 10", "0e 80 80 80 80 80",
			"0e 00 e9 07", "0e 00 80 00", "0e 01 e9 07", "0e 02 e9 07", "0e 02 80 00", "0e 32 00 e9 07", "0e 02 00 e9 07 80 80 80 80 80",
			"0e 33 80", "0e 01 e9 07 80", "0e 01 00 e9 07",
			"11 e9 07", "11 e9 07 01", "11 e9 07 00", "11 80 00", "11 80 00 00", "11 00 01", "11 00 80", "11 00 ff", "11 05 80 00",
			"28 04", "28 04 00", "28 04 80", "28 80 00", "28 83 00 00", "28 03 80 00", "28 03 80 80 80 80 10", "28 80 80 80 80 80", "3a 7f 00",
			"3f 01", "3f 80", "3f 80 00", "3f ff", "40 01", "40 40", "40 80 00",
			"41 80 00", "41 ff 7f", "41 80 80 80 80 08", "41 ff ff ff ff 77", "41 80 80 80 80 80", "41 ff ff ff ff 0f",
			"42 80 00", "42 ff 7f", "42 bf 00", "42 80 80 80 80 80 80 80 80 80 01", "42 ff ff ff ff ff ff ff ff ff 7e", "42 80 80 80 80 80 80 80 80 80 80",
		},
	} {
		for _, s := range faults {
			x, k, err := instr.Get(unhex(t, s))
			if !same(x, api.Instr{}) || k != 0 || err != want {
				t.Errorf("P5.1: Get %s: got %v, %d, %d; want the error %d", s, x, k, err, want)
			}
		}
	}
}

func TestGetOfNoBytes(t *testing.T) {
	for _, b := range [][]byte{nil, {}, make([]byte, 0, 9)} {
		if x, k, err := instr.Get(b); !same(x, api.Instr{}) || k != 0 || err != api.ErrMore {
			t.Errorf("P5.1: Get of no bytes: got %v, %d, %d", x, k, err)
		}
	}
	// What is spare behind the bytes does not belong to them.
	if _, _, err := instr.Get(append([]byte{0x0c}, 5)[:1]); err != api.ErrMore {
		t.Errorf("P5.1: Get reads spare capacity: got %d", err)
	}
}

// TestThereAndBack decodes what was encoded: whole, with bytes behind it that do not belong to it, and each proper prefix.
func TestThereAndBack(t *testing.T) {
	for _, x := range valid() {
		b := instr.Put(nil, x)
		for _, behind := range [][]byte{nil, {0}, {0x80}, {0xff, 0xff}, {0x0b, 0x06}} {
			y, k, err := instr.Get(slices.Concat(b, behind))
			if !same(y, x) || !instr.Eq(y, x) || k != len(b) || err != api.OK {
				t.Errorf("P5.1: Get %x with %x behind it: got %v, %d, %d; want %v", b, behind, y, k, err, x)
			}
		}
		for cut := range b {
			if y, k, err := instr.Get(b[:cut]); !same(y, api.Instr{}) || k != 0 || err != api.ErrMore {
				t.Errorf("P5.1: Get of the first %d bytes of %x: got %v, %d, %d", cut, b, y, k, err)
			}
		}
	}
}

// TestEveryShortString goes through all strings of up to two bytes, and through those of three that a first part leaves open.
func TestEveryShortString(t *testing.T) {
	all := rows()
	for x := range 256 {
		compare(t, all, []byte{byte(x)})
		for y := range 256 {
			b := []byte{byte(x), byte(y)}
			compare(t, all, b)
			if _, _, err := decode(all, b); err != api.ErrMore {
				continue
			}
			for z := range 256 {
				compare(t, all, append(b, byte(z)))
			}
		}
	}
}

// TestEverySmallFault goes through encodings in which a byte is another, missing, or too much.
func TestEverySmallFault(t *testing.T) {
	all := rows()
	for _, x := range []api.Instr{
		{Op: 0x0c, A: 1000}, {Op: 0x11, A: 300}, {Op: 0x28, A: 3, B: math.MaxUint32}, {Op: 0x3a, B: 300}, {Op: 0x37, A: 1, B: 1 << 28},
		{Op: 0x0e, A: 3, L: []int{0, 1000}}, {Op: 0x0e, A: 1000, L: []int{127, 128, 1000}}, {Op: 0x0e, L: make([]int, 50)},
		{Op: 0x41, A: math.MinInt32}, {Op: 0x41, A: math.MaxInt32}, {Op: 0x41, A: -65},
		{Op: 0x42, A: math.MinInt64}, {Op: 0x42, A: math.MaxInt64}, {Op: 0x42, A: 1 << 32}, {Op: 0x42, A: -1 << 62},
	} {
		good := encode(all, x)
		for at := range good {
			compare(t, all, slices.Delete(bytes.Clone(good), at, at+1))
			for n := range 256 {
				b := bytes.Clone(good)
				b[at] = byte(n)
				compare(t, all, b)
				compare(t, all, b[:at+1])
				compare(t, all, append(bytes.Clone(b[:at+1]), 0x80, 0x80))
				compare(t, all, slices.Insert(bytes.Clone(good), at, byte(n)))
			}
		}
	}
}

// TestLongStrings holds Get against strings of many bytes, each of which could go on.
func TestLongStrings(t *testing.T) {
	all := rows()
	for x := range 256 {
		for _, y := range []byte{0, 1, 0x32, 0x33, 0x40, 0x7f, 0x80, 0xff} {
			compare(t, all, append([]byte{byte(x)}, bytes.Repeat([]byte{y}, 300)...))
			compare(t, all, append([]byte{byte(x), 0}, bytes.Repeat([]byte{y}, 300)...))
			compare(t, all, append([]byte{byte(x), 0x32}, bytes.Repeat([]byte{y}, 50)...))
		}
	}
	long := bytes.Repeat([]byte{0x0e, 0x32}, 1<<20)
	if x, k, err := instr.Get(long); x.Op != 0x0e || len(x.L) != 50 || x.A != 0x0e || k != 53 || err != api.OK {
		t.Errorf("P5.1: Get of many bytes: got %v, %d, %d", x, k, err)
	}
}

// TestNumbers holds the numbers of every operand against the edges of their encodings, in the shortest form and in longer ones.
func TestNumbers(t *testing.T) {
	all := rows()
	for op := range all {
		for _, n := range numbers() {
			for _, signed := range []bool{false, true} {
				if n < 0 && !signed {
					continue
				}
				short := number(n, signed)
				longer := bytes.Clone(short)
				longer[len(longer)-1] |= 0x80
				sign := byte(0)
				if n < 0 {
					sign = 0x7f
				}
				for _, b := range [][]byte{short, append(longer, sign), short[:len(short)-1]} {
					compare(t, all, slices.Concat([]byte{byte(op)}, b))
					compare(t, all, slices.Concat([]byte{byte(op)}, b, []byte{0}))
					compare(t, all, slices.Concat([]byte{byte(op), 0}, b))
					compare(t, all, slices.Concat([]byte{byte(op), 2, 5}, b, []byte{0}))
				}
			}
		}
	}
}

// fill overwrites b and what is spare behind it.
func fill[E any](b []E, x E) {
	b = b[:cap(b)]
	for i := range b {
		b[i] = x
	}
}

// TestArgumentsStay holds the calls against P0.3: the bytes and the L stay as they are, with what is spare behind them.
func TestArgumentsStay(t *testing.T) {
	for _, x := range []api.Instr{{Op: 0x0e, A: 3}, {Op: 0x0e, A: 1001}, {Op: 0x0c, A: 1}, {Op: 0x06}, {Op: 0x42, A: math.MaxInt64}} {
		for _, low := range []int{7, -7, 2000} {
			whole := []int{900, low, 3, 5, 5, 5, 5, 5}
			want := slices.Clone(whole)
			x.L = whole[:3]
			text := bytes.Repeat([]byte{5}, 300)
			instr.May(x)
			instr.Eq(x, x)
			instr.Eq(x, api.Instr{Op: x.Op, A: x.A, L: whole[:4]})
			instr.Eq(api.Instr{Op: x.Op, A: x.A, L: whole[:4]}, x)
			instr.Put(text[:3], x)
			instr.Put(text[:0], x)
			if !slices.Equal(whole, want) {
				t.Errorf("P0.3: the L of %v became %v", x, whole)
			}
			if !bytes.Equal(text, bytes.Repeat([]byte{5}, 300)) {
				t.Errorf("P0.3: Put %v changed its bytes", x)
			}
		}
	}
	for _, s := range []string{"0e 02 00 e8 07 03 05", "28 02 ac 02", "41 80", "06", "0e 33", "3f 01", "02 7f"} {
		whole := append(unhex(t, s), 9, 9, 9)
		want := bytes.Clone(whole)
		instr.Get(whole[:len(whole)-3])
		if !bytes.Equal(whole, want) {
			t.Errorf("P0.3: Get changed %s to %x", s, whole)
		}
	}
}

// TestPutIsFresh holds the results against P0.3: no shared memory, neither used nor spare.
func TestPutIsFresh(t *testing.T) {
	for _, x := range []api.Instr{{Op: 0x01}, {Op: 0x02, A: 1}, {Op: 0x0c, A: 1000}, {Op: 0x0e, A: 3, L: []int{0, 1000}}, {Op: 0x11, A: 1}, {Op: 0x28, A: 2, B: 300}, {Op: 0x40}, {Op: 0x41, A: -1}, {Op: 0x42, A: math.MaxInt64}} {
		for _, behind := range []int{0, 3, 40} {
			whole := bytes.Repeat([]byte{5}, 40)
			first, second := instr.Put(whole[:behind], x), instr.Put(whole[:behind], x)
			want := bytes.Clone(second)
			fill(first, 6)
			if !bytes.Equal(whole, bytes.Repeat([]byte{5}, 40)) {
				t.Errorf("P0.3: the result of Put %v shares memory with the argument", x)
			}
			if !bytes.Equal(second, want) {
				t.Errorf("P0.3: two results of Put %v share memory", x)
			}
			if again := instr.Put(whole[:behind], x); !bytes.Equal(again, want) {
				t.Errorf("P0.3: the program keeps the result of Put %v", x)
			}
			fill(whole, 7)
			fill(x.L, 1)
			if !bytes.Equal(second, want) {
				t.Errorf("P0.3: Put %v keeps its argument", x)
			}
			copy(x.L, []int{0, 1000})
		}
	}
}

// TestGetIsFresh does the same for the L that Get returns.
func TestGetIsFresh(t *testing.T) {
	for _, want := range [][]int{nil, {4}, {0, 1000}, {1, 2, 3, 4, 5}, slices.Repeat([]int{9}, 33), make([]int, 50)} {
		b := instr.Put(nil, api.Instr{Op: 0x0e, A: 2, L: want})
		first, _, _ := instr.Get(b)
		second, _, _ := instr.Get(b)
		fill(b, 1)
		if !slices.Equal(first.L, want) {
			t.Errorf("P0.3: the L of Get is its argument: %v", first.L)
		}
		fill(b, 2)
		kept := bytes.Clone(b)
		fill(first.L, 8)
		if !slices.Equal(second.L, want) {
			t.Errorf("P0.3: two results of Get share memory: %v", second.L)
		}
		if !bytes.Equal(b, kept) {
			t.Errorf("P0.3: the L of Get shares memory with its argument: %x", b)
		}
		third, _, _ := instr.Get(instr.Put(nil, api.Instr{Op: 0x0e, A: 2, L: want}))
		if !slices.Equal(third.L, want) {
			t.Errorf("P0.3: the program keeps the L of Get: %v", third.L)
		}
	}
}

// TestCallsStandAlone holds the calls against P0.5: what was asked before changes no answer.
func TestCallsStandAlone(t *testing.T) {
	tell := func(b []byte, x api.Instr) string {
		y, k, err := instr.Get(b)
		return fmt.Sprintf("%v %v %d %d %x %t %t", y.Op, append([]int{int(y.A), int(y.B)}, y.L...), k, err, instr.Put(b, x), instr.May(x), instr.Eq(x, y))
	}
	texts := []string{"0e 02 00 e8 07 03 05", "0e 33", "28 02 ac 02", "28 03 80", "41 7f", "06", "", "11 05 00"}
	all := []api.Instr{{Op: 0x0e, A: 3, L: []int{0, 1000}}, {Op: 0x0e}, {Op: 0x28, A: 2, B: 300}, {Op: 0x41, A: -1}, {Op: 0x11, A: 5}}
	told := map[string]string{}
	for range 3 {
		for _, s := range texts {
			for k, x := range all {
				got := tell(unhex(t, s), x)
				key := s + fmt.Sprint(k)
				if before, ok := told[key]; ok && before != got {
					t.Errorf("P0.5: %s, %v: got %s, before it %s", s, x, got, before)
				}
				told[key] = got
			}
		}
	}
}
