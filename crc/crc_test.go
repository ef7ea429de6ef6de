package crc_test

import (
	"bytes"
	"math/bits"
	"strings"
	"testing"

	"diapause/crc"
)

// slow divides bit by bit, highest power first: what the checksum so far has left in front, b, and 32 zero bits behind.
func slow(sum uint32, b []byte) uint32 {
	dividend := make([]bool, 8*len(b)+32)
	for i, x := range b {
		for j := range 8 {
			dividend[8*i+j] = x>>j&1 == 1
		}
	}
	for i := range 32 {
		dividend[i] = dividend[i] != (^sum>>i&1 == 1)
	}
	const polynomial = 0x04c11db7 // its power 32 goes without saying
	for i := range 8 * len(b) {
		if !dividend[i] {
			continue
		}
		for j := range 32 {
			dividend[i+1+j] = dividend[i+1+j] != (polynomial>>(31-j)&1 == 1)
		}
	}
	rest := uint32(0)
	for _, bit := range dividend[8*len(b):] {
		rest <<= 1
		if bit {
			rest |= 1
		}
	}
	return ^bits.Reverse32(rest)
}

// mixed makes n bytes without a short period.
func mixed(n int) []byte {
	b := make([]byte, n)
	x := uint32(1)
	for i := range b {
		x = x*1664525 + 1013904223
		b[i] = byte(x >> 24)
	}
	return b
}

// samples are byte strings, ordinary ones and edges.
func samples() [][]byte {
	l := [][]byte{nil, {}, []byte("123456789"), []byte("some text, and more of it\x00\xff")}
	for _, n := range []int{1, 2, 3, 4, 5, 7, 8, 9, 15, 16, 17, 63, 64, 65, 300} {
		l = append(l, make([]byte, n), bytes.Repeat([]byte{0xff}, n), mixed(n))
	}
	return l
}

// sums are checksums from which to go on: edges, and each single bit.
func sums() []uint32 {
	l := []uint32{0, 0xffffffff, 0xcbf43926, 0x04c11db7, 0xedb88320, 0x7fffffff, 0x55555555, 0xaaaaaaaa}
	for i := range 32 {
		l = append(l, 1<<i, ^uint32(1<<i))
	}
	return l
}

// TestKnown holds Sum against values that are known from elsewhere, not from this project.
func TestKnown(t *testing.T) {
	upward := make([]byte, 256)
	for i := range upward {
		upward[i] = byte(i)
	}
	for _, c := range []struct {
		b    []byte
		want uint32
	}{
		{nil, 0},
		{[]byte{}, 0},
		{[]byte("123456789"), 0xcbf43926},
		{[]byte("a"), 0xe8b7be43},
		{[]byte("abc"), 0x352441c2},
		{[]byte("message digest"), 0x20159d7f},
		{[]byte("abcdefghijklmnopqrstuvwxyz"), 0x4c2750bd},
		{[]byte("The quick brown fox jumps over the lazy dog"), 0x414fa339},
		{[]byte{0}, 0xd202ef8d},
		{[]byte{0xff}, 0xff000000},
		{[]byte{0xff, 0xff, 0xff, 0xff}, 0xffffffff},
		{make([]byte, 4), 0x2144df1c},
		{make([]byte, 32), 0x190a55ad},
		{bytes.Repeat([]byte{0xff}, 32), 0xff6cab0b},
		{upward[:32], 0x91267e8a},
		{upward, 0x29058c73},
		{[]byte(strings.Repeat("a", 1000000)), 0xdc25bfbc},
	} {
		if got := crc.Sum(c.b); got != c.want {
			t.Errorf("P2.1: Sum of %d bytes %.40q: got %08x, want %08x", len(c.b), c.b, got, c.want)
		}
	}
}

func TestSum(t *testing.T) {
	for _, b := range samples() {
		if got, want := crc.Sum(b), slow(0, b); got != want {
			t.Errorf("P2.1: Sum(%x): got %08x, want %08x", b, got, want)
		}
	}
}

// TestEveryShortString goes through all strings of up to two bytes, and with them through all half bytes in all places.
func TestEveryShortString(t *testing.T) {
	for x := range 256 {
		b := []byte{byte(x)}
		if got, want := crc.Sum(b), slow(0, b); got != want {
			t.Errorf("P2.1: Sum(%x): got %08x, want %08x", b, got, want)
		}
		for y := range 256 {
			b := []byte{byte(x), byte(y)}
			if got, want := crc.Sum(b), slow(0, b); got != want {
				t.Errorf("P2.1: Sum(%x): got %08x, want %08x", b, got, want)
			}
		}
	}
}

// TestEverySingleBit turns each bit of a string: none may go unseen.
func TestEverySingleBit(t *testing.T) {
	b := mixed(100)
	whole := crc.Sum(b)
	for i := range 8 * len(b) {
		turned := bytes.Clone(b)
		turned[i/8] ^= 1 << (i % 8)
		got := crc.Sum(turned)
		if want := slow(0, turned); got != want || got == whole {
			t.Errorf("P2.1: Sum with bit %d turned: got %08x, want %08x, not %08x", i, got, want, whole)
		}
	}
}

// TestEveryDivision takes each string in two parts, empty ones among them, as nil and as no bytes.
func TestEveryDivision(t *testing.T) {
	for _, b := range samples() {
		want := slow(0, b)
		for n := range len(b) + 1 {
			if got := crc.More(crc.Sum(b[:n]), b[n:]); got != want {
				t.Errorf("P2.1: %x divided at %d: got %08x, want %08x", b, n, got, want)
			}
		}
		for _, empty := range [][]byte{nil, {}} {
			if got := crc.More(crc.Sum(empty), b); got != want {
				t.Errorf("P2.1: %x behind no bytes: got %08x, want %08x", b, got, want)
			}
			if got := crc.More(crc.Sum(b), empty); got != want {
				t.Errorf("P2.1: no bytes behind %x: got %08x, want %08x", b, got, want)
			}
		}
	}
}

// TestManyParts goes on from part to part, of all lengths up to eleven bytes.
func TestManyParts(t *testing.T) {
	b := mixed(300)
	want := slow(0, b)
	for most := 1; most <= 11; most++ {
		sum := crc.Sum(nil)
		for rest := b; len(rest) > 0; {
			n := min(most, len(rest))
			sum = crc.More(sum, rest[:n])
			rest = rest[n:]
		}
		if sum != want {
			t.Errorf("P2.1: in parts of %d: got %08x, want %08x", most, sum, want)
		}
	}
}

// TestMoreOfAnySum goes on from checksums that Sum was not asked for: each is one of some string.
func TestMoreOfAnySum(t *testing.T) {
	for _, sum := range sums() {
		for _, b := range samples() {
			if got, want := crc.More(sum, b), slow(sum, b); got != want {
				t.Errorf("P2.1: More(%08x, %x): got %08x, want %08x", sum, b, got, want)
			}
		}
		if got := crc.More(sum, nil); got != sum {
			t.Errorf("P2.1: More(%08x, nil): got %08x", sum, got)
		}
	}
}

// TestLong holds P0.1: a long string ends, and in any two parts it is the same.
func TestLong(t *testing.T) {
	b := mixed(1 << 22)
	want := crc.Sum(b)
	for _, n := range []int{0, 1, 1 << 16, 1<<21 + 5, len(b) - 1, len(b)} {
		if got := crc.More(crc.Sum(b[:n]), b[n:]); got != want {
			t.Errorf("P2.1: a long string divided at %d: got %08x, want %08x", n, got, want)
		}
	}
}

// TestReadsOnly holds P0.3: neither the bytes nor what is spare behind them change, nor does the latter count.
func TestReadsOnly(t *testing.T) {
	for n := range 41 {
		whole := mixed(80)
		b := whole[20 : 20+n]
		got, went := crc.Sum(b), crc.More(0x12345678, b)
		if !bytes.Equal(whole, mixed(80)) {
			t.Errorf("P0.3: Sum or More changed its argument of %d bytes, or what lies about it: %x", n, whole)
		}
		tight := bytes.Clone(b)
		if again, anew := crc.Sum(tight), crc.More(0x12345678, tight); got != again || went != anew {
			t.Errorf("P0.5: with spare bytes %08x and %08x, without %08x and %08x", got, went, again, anew)
		}
	}
}

// TestSameAgain holds P0.5, and that no argument is kept (P0.3): calls between, and changes of what was given, do nothing.
func TestSameAgain(t *testing.T) {
	b := mixed(50)
	sum, more := crc.Sum(b), crc.More(0xcbf43926, b)
	for i := range b {
		b[i] = ^b[i]
	}
	crc.Sum(b)
	crc.More(7, b)
	if again := crc.Sum(mixed(50)); again != sum {
		t.Errorf("P0.5: Sum: first %08x, then %08x", sum, again)
	}
	if again := crc.More(0xcbf43926, mixed(50)); again != more {
		t.Errorf("P0.5: More: first %08x, then %08x", more, again)
	}
}
