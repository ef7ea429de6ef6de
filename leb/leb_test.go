package leb_test

import (
	"bytes"
	"encoding/hex"
	"math"
	"math/big"
	"testing"

	"diapause/api"
	"diapause/leb"
)

// edges are the integers at which an encoding or its length changes, as 64 bits.
func edges() []uint64 {
	l := []uint64{0, 300, 0x0123456789abcdef, 0xfedcba9876543210, 0x5555555555555555, 0xaaaaaaaaaaaaaaaa}
	for shift := range 64 {
		for d := range uint64(5) {
			l = append(l, 1<<shift+d-2, -(1<<shift)+d-2)
		}
	}
	return l
}

// encode is the slow way: with the fewest groups that hold n, as bits of two's complement.
func encode(n *big.Int, signed bool) []byte {
	k := 1
	for !holds(n, 7*k, signed) {
		k++
	}
	var b []byte
	for i := range k {
		x := new(big.Int).Rsh(n, uint(7*i))
		group := byte(x.And(x, big.NewInt(127)).Int64())
		if i < k-1 {
			group |= 128
		}
		b = append(b, group)
	}
	return b
}

// holds tells whether n is an integer of so many bits.
func holds(n *big.Int, bits int, signed bool) bool {
	low, high := big.NewInt(0), new(big.Int).Lsh(big.NewInt(1), uint(bits))
	if signed {
		high.Rsh(high, 1)
		low.Neg(high)
	}
	return n.Cmp(low) >= 0 && n.Cmp(high) < 0
}

// decode is the slow way: the bytes up to the last one, held against the encoding of what they say.
func decode(b []byte, bits int, signed bool) (*big.Int, int, api.Errno) {
	if bits < 1 || bits > 64 {
		return new(big.Int), 0, api.ErrRange
	}
	n := new(big.Int)
	for i, x := range b {
		n.Add(n, new(big.Int).Lsh(big.NewInt(int64(x&127)), uint(7*i)))
		if x >= 128 {
			continue
		}
		if signed && x&64 != 0 {
			n.Sub(n, new(big.Int).Lsh(big.NewInt(1), uint(7*i+7)))
		}
		if holds(n, bits, signed) && bytes.Equal(encode(n, signed), b[:i+1]) {
			return n, i + 1, api.OK
		}
		return new(big.Int), 0, api.ErrForm
	}
	if len(b) >= (bits+6)/7 {
		return new(big.Int), 0, api.ErrForm
	}
	return new(big.Int), 0, api.ErrMore
}

// compare holds U and S of b against the slow way.
func compare(t *testing.T, b []byte, bits int) {
	t.Helper()
	n, k, err := leb.U(b, bits)
	if want, wantK, wantErr := decode(b, bits, false); n != want.Uint64() || k != wantK || err != wantErr {
		t.Errorf("P1.1: U(%x, %d): got %d, %d, %d; want %d, %d, %d", b, bits, n, k, err, want, wantK, wantErr)
	}
	m, k, err := leb.S(b, bits)
	if want, wantK, wantErr := decode(b, bits, true); m != want.Int64() || k != wantK || err != wantErr {
		t.Errorf("P1.1: S(%x, %d): got %d, %d, %d; want %d, %d, %d", b, bits, m, k, err, want, wantK, wantErr)
	}
}

func unhex(t *testing.T, s string) []byte {
	t.Helper()
	b, err := hex.DecodeString(s)
	if err != nil {
		t.Fatal(err)
	}
	return b
}

func TestPutU(t *testing.T) {
	for _, c := range []struct {
		n    uint64
		want string
	}{
		{0, "00"}, {1, "01"}, {63, "3f"}, {64, "40"}, {127, "7f"}, {128, "8001"}, {300, "ac02"},
		{16383, "ff7f"}, {16384, "808001"},
		{math.MaxUint32, "ffffffff0f"},
		{1<<63 - 1, "ffffffffffffffff7f"},
		{1 << 63, "80808080808080808001"},
		{math.MaxUint64, "ffffffffffffffffff01"},
	} {
		if got := hex.EncodeToString(leb.PutU(nil, c.n)); got != c.want {
			t.Errorf("P1.1: PutU %d: got %s, want %s", c.n, got, c.want)
		}
	}
	for _, n := range edges() {
		want := encode(new(big.Int).SetUint64(n), false)
		if got := leb.PutU(nil, n); !bytes.Equal(got, want) {
			t.Errorf("P1.1: PutU %d: got %x, want %x", n, got, want)
		}
	}
}

func TestPutS(t *testing.T) {
	for _, c := range []struct {
		n    int64
		want string
	}{
		{0, "00"}, {1, "01"}, {-1, "7f"}, {63, "3f"}, {64, "c000"}, {-64, "40"}, {-65, "bf7f"},
		{127, "ff00"}, {128, "8001"}, {-128, "807f"}, {8191, "ff3f"}, {8192, "80c000"}, {-8192, "8040"}, {-8193, "ffbf7f"},
		{math.MaxInt32, "ffffffff07"}, {math.MinInt32, "8080808078"},
		{math.MaxInt64, "ffffffffffffffffff00"}, {math.MinInt64, "8080808080808080807f"},
	} {
		if got := hex.EncodeToString(leb.PutS(nil, c.n)); got != c.want {
			t.Errorf("P1.1: PutS %d: got %s, want %s", c.n, got, c.want)
		}
	}
	for _, x := range edges() {
		n := int64(x)
		want := encode(big.NewInt(n), true)
		if got := leb.PutS(nil, n); !bytes.Equal(got, want) {
			t.Errorf("P1.1: PutS %d: got %x, want %x", n, got, want)
		}
	}
}

func TestPutBehind(t *testing.T) {
	long := bytes.Repeat([]byte{0x80}, 1000)
	for _, b := range [][]byte{nil, {}, {0}, {0x80}, {1, 2, 3}, long} {
		for _, n := range edges() {
			if got, want := leb.PutU(b, n), append(bytes.Clone(b), encode(new(big.Int).SetUint64(n), false)...); !bytes.Equal(got, want) {
				t.Errorf("P1.1: PutU %d behind %d bytes: got %x", n, len(b), got)
			}
			if got, want := leb.PutS(b, int64(n)), append(bytes.Clone(b), encode(big.NewInt(int64(n)), true)...); !bytes.Equal(got, want) {
				t.Errorf("P1.1: PutS %d behind %d bytes: got %x", int64(n), len(b), got)
			}
		}
	}
}

// TestPutIsFresh holds the results against P0.3: no shared memory, neither used nor spare.
func TestPutIsFresh(t *testing.T) {
	puts := map[string]func(b []byte) []byte{
		"PutU": func(b []byte) []byte { return leb.PutU(b, math.MaxUint64) },
		"PutS": func(b []byte) []byte { return leb.PutS(b, math.MinInt64) },
	}
	for name, put := range puts {
		whole := bytes.Repeat([]byte{5}, 40)
		first, second := put(whole[:3]), put(whole[:3])
		if !bytes.Equal(whole, bytes.Repeat([]byte{5}, 40)) {
			t.Errorf("P0.3: %s changed its argument: %x", name, whole)
		}
		want := bytes.Clone(second)
		fill(first, 6)
		if !bytes.Equal(whole, bytes.Repeat([]byte{5}, 40)) {
			t.Errorf("P0.3: the result of %s shares memory with the argument", name)
		}
		if !bytes.Equal(second, want) {
			t.Errorf("P0.3: two results of %s share memory", name)
		}
		fill(whole, 7)
		if !bytes.Equal(second, want) {
			t.Errorf("P0.3: %s keeps its argument", name)
		}
	}
}

// fill overwrites b and what is spare behind it.
func fill(b []byte, x byte) {
	b = b[:cap(b)]
	for i := range b {
		b[i] = x
	}
}

func TestU(t *testing.T) {
	for _, c := range []struct {
		b    string
		bits int
		n    uint64
		k    int
		err  api.Errno
	}{
		{"ac0207", 64, 300, 2, api.OK},
		{"ac0207", 8, 0, 0, api.ErrForm},
		{"ac0207", 9, 300, 2, api.OK},
		{"80", 8, 0, 0, api.ErrMore},
		{"80", 7, 0, 0, api.ErrForm},
		{"8000", 64, 0, 0, api.ErrForm},
		{"8000", 7, 0, 0, api.ErrForm},
		{"00", 1, 0, 1, api.OK},
		{"01", 1, 1, 1, api.OK},
		{"02", 1, 0, 0, api.ErrForm},
		{"7f", 7, 127, 1, api.OK},
		{"7f", 6, 0, 0, api.ErrForm},
		{"ff01", 8, 255, 2, api.OK},
		{"8002", 8, 0, 0, api.ErrForm},
		{"ff7f", 14, 16383, 2, api.OK},
		{"ffff", 14, 0, 0, api.ErrForm},
		{"ffff", 15, 0, 0, api.ErrMore},
		{"ffffffff0f", 32, math.MaxUint32, 5, api.OK},
		{"8080808010", 32, 0, 0, api.ErrForm},
		{"ffffffffffffffffff01", 64, math.MaxUint64, 10, api.OK},
		{"80808080808080808001", 63, 0, 0, api.ErrForm},
		{"ffffffffffffffffff02", 64, 0, 0, api.ErrForm},
		{"80808080808080808000", 64, 0, 0, api.ErrForm},
		{"808080808080808080", 64, 0, 0, api.ErrMore},
		{"808080808080808080", 63, 0, 0, api.ErrForm},
		{"80808080808080808080", 64, 0, 0, api.ErrForm},
		{"8080808080808080808001", 64, 0, 0, api.ErrForm},
		{"", 1, 0, 0, api.ErrMore},
		{"", 64, 0, 0, api.ErrMore},
	} {
		if n, k, err := leb.U(unhex(t, c.b), c.bits); n != c.n || k != c.k || err != c.err {
			t.Errorf("P1.1: U(%s, %d): got %d, %d, %d; want %d, %d, %d", c.b, c.bits, n, k, err, c.n, c.k, c.err)
		}
	}
}

func TestS(t *testing.T) {
	for _, c := range []struct {
		b    string
		bits int
		n    int64
		k    int
		err  api.Errno
	}{
		{"7f07", 64, -1, 1, api.OK},
		{"c00007", 64, 64, 2, api.OK},
		{"c000", 8, 64, 2, api.OK},
		{"c000", 7, 0, 0, api.ErrForm},
		{"bf7f", 8, -65, 2, api.OK},
		{"bf7f", 7, 0, 0, api.ErrForm},
		{"8000", 64, 0, 0, api.ErrForm},
		{"ff7f", 64, 0, 0, api.ErrForm},
		{"c07f", 64, 0, 0, api.ErrForm},
		{"bf00", 64, 0, 0, api.ErrForm},
		{"00", 1, 0, 1, api.OK},
		{"7f", 1, -1, 1, api.OK},
		{"01", 1, 0, 0, api.ErrForm},
		{"7e", 1, 0, 0, api.ErrForm},
		{"01", 2, 1, 1, api.OK},
		{"7e", 2, -2, 1, api.OK},
		{"3f", 7, 63, 1, api.OK},
		{"3f", 6, 0, 0, api.ErrForm},
		{"40", 7, -64, 1, api.OK},
		{"40", 6, 0, 0, api.ErrForm},
		{"ff00", 8, 127, 2, api.OK},
		{"807f", 8, -128, 2, api.OK},
		{"8001", 8, 0, 0, api.ErrForm},
		{"ff7e", 8, 0, 0, api.ErrForm},
		{"ffffffff07", 32, math.MaxInt32, 5, api.OK},
		{"8080808078", 32, math.MinInt32, 5, api.OK},
		{"8080808008", 32, 0, 0, api.ErrForm},
		{"ffffffff77", 32, 0, 0, api.ErrForm},
		{"ffffffffffffffffff00", 64, math.MaxInt64, 10, api.OK},
		{"8080808080808080807f", 64, math.MinInt64, 10, api.OK},
		{"80808080808080808001", 64, 0, 0, api.ErrForm},
		{"8080808080808080807e", 64, 0, 0, api.ErrForm},
		{"8080808080808080807f", 63, 0, 0, api.ErrForm},
		{"808080808080808080", 64, 0, 0, api.ErrMore},
		{"808080808080808080", 63, 0, 0, api.ErrForm},
		{"ffffffffffffffffffff", 64, 0, 0, api.ErrForm},
		{"80", 8, 0, 0, api.ErrMore},
		{"80", 7, 0, 0, api.ErrForm},
		{"", 7, 0, 0, api.ErrMore},
		{"", 64, 0, 0, api.ErrMore},
	} {
		if n, k, err := leb.S(unhex(t, c.b), c.bits); n != c.n || k != c.k || err != c.err {
			t.Errorf("P1.1: S(%s, %d): got %d, %d, %d; want %d, %d, %d", c.b, c.bits, n, k, err, c.n, c.k, c.err)
		}
	}
}

func TestBitsOutOfRange(t *testing.T) {
	for _, bits := range []int{0, -1, 65, 70, -7, math.MaxInt, math.MaxInt - 6, math.MinInt} {
		for _, s := range []string{"", "01", "80", "8000", "ff7f", "80808080808080808080"} {
			b := unhex(t, s)
			if n, k, err := leb.U(b, bits); n != 0 || k != 0 || err != api.ErrRange {
				t.Errorf("P1.1: U(%s, %d): got %d, %d, %d", s, bits, n, k, err)
			}
			if n, k, err := leb.S(b, bits); n != 0 || k != 0 || err != api.ErrRange {
				t.Errorf("P1.1: S(%s, %d): got %d, %d, %d", s, bits, n, k, err)
			}
		}
	}
}

func TestNilAndEmpty(t *testing.T) {
	for bits := -1; bits <= 65; bits++ {
		compare(t, nil, bits)
		compare(t, []byte{}, bits)
	}
	for _, n := range edges() {
		if !bytes.Equal(leb.PutU(nil, n), leb.PutU([]byte{}, n)) || !bytes.Equal(leb.PutS(nil, int64(n)), leb.PutS([]byte{}, int64(n))) {
			t.Errorf("P0.4: %d behind nil and behind no bytes", n)
		}
	}
}

// TestEveryShortString goes through all strings of up to two bytes.
func TestEveryShortString(t *testing.T) {
	for x := range 256 {
		for bits := 1; bits <= 16; bits++ {
			compare(t, []byte{byte(x)}, bits)
		}
		for y := range 256 {
			for _, bits := range []int{1, 6, 7, 8, 9, 13, 14, 15, 16, 64} {
				compare(t, []byte{byte(x), byte(y)}, bits)
			}
		}
	}
}

// TestEdgesOfEveryLength goes through all lengths from none to twelve bytes, with all ways to end them.
func TestEdgesOfEveryLength(t *testing.T) {
	ends := []byte{0, 1, 2, 3, 7, 8, 0x3e, 0x3f, 0x40, 0x41, 0x77, 0x78, 0x7c, 0x7d, 0x7e, 0x7f, 0x80, 0xff}
	for k := range 11 {
		for _, low := range []byte{0x80, 0xff, 0xbf, 0xc0} {
			for _, before := range []byte{0x80, 0xff, 0xbf, 0xc0} {
				for _, end := range ends {
					b := append(bytes.Repeat([]byte{low}, k), before, end)
					for bits := 0; bits <= 65; bits++ {
						compare(t, b, bits)
						compare(t, b[:k], bits)
					}
				}
			}
		}
	}
}

// TestThereAndBack decodes what was encoded, whole and cut, with bytes behind it that do not belong to it.
func TestThereAndBack(t *testing.T) {
	for _, n := range edges() {
		u, s := leb.PutU(nil, n), leb.PutS(nil, int64(n))
		if got, k, err := leb.U(append(u, 0xff, 0), 64); got != n || k != len(u) || err != api.OK {
			t.Errorf("P1.1: U of PutU %d: got %d, %d, %d", n, got, k, err)
		}
		if got, k, err := leb.S(append(s, 0xff, 0), 64); got != int64(n) || k != len(s) || err != api.OK {
			t.Errorf("P1.1: S of PutS %d: got %d, %d, %d", int64(n), got, k, err)
		}
		for bits := 1; bits <= 64; bits++ {
			compare(t, append(bytes.Clone(u), 0), bits)
			compare(t, append(bytes.Clone(s), 0), bits)
			for cut := range u {
				compare(t, u[:cut], bits)
			}
			for cut := range s {
				compare(t, s[:cut], bits)
			}
		}
	}
}

// TestReadsOnly holds U and S against P0.3 and P0.5.
func TestReadsOnly(t *testing.T) {
	for _, s := range []string{"ac0207", "bf7f00", "80", "8000", "ffffffffffffffffffff"} {
		b := unhex(t, s)
		n, k, err := leb.U(b, 64)
		m, j, fault := leb.S(b, 64)
		if hex.EncodeToString(b) != s {
			t.Errorf("P0.3: U or S changed %s to %x", s, b)
		}
		leb.U([]byte{1, 2}, 3)
		leb.S([]byte{0x81, 2}, 64)
		if again, l, e := leb.U(b, 64); again != n || l != k || e != err {
			t.Errorf("P0.5: U of %s changes", s)
		}
		if again, l, e := leb.S(b, 64); again != m || l != j || e != fault {
			t.Errorf("P0.5: S of %s changes", s)
		}
	}
}
