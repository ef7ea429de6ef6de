package pack_test

import (
	"bytes"
	"fmt"
	"math"
	"slices"
	"strings"
	"testing"

	"diapause/api"
	"diapause/pack"
)

func TestNumbers(t *testing.T) {
	for n, want := range map[int]string{0: "00", 1: "01", 127: "7f", 128: "8001", 300: "ac02", math.MaxUint32: "ffffffff0f"} {
		b := pack.Number(n)
		if fmt.Sprintf("%x", b) != want {
			t.Errorf("Number of %d: got %x, want %s", n, b, want)
		}
		if got := pack.NewReader(b).Number(); got != n {
			t.Errorf("Number reads %x: got %d, want %d", b, got, n)
		}
	}
	for n, want := range map[int64]string{0: "00", -1: "7f", 63: "3f", 64: "c000", -64: "40", -65: "bf7f", math.MinInt64: "8080808080808080807f", math.MaxInt64: "ffffffffffffffffff00"} {
		b := pack.Signed(n)
		if fmt.Sprintf("%x", b) != want {
			t.Errorf("Signed of %d: got %x, want %s", n, b, want)
		}
		if got := pack.NewReader(b).Signed(); got != n {
			t.Errorf("Signed reads %x: got %d, want %d", b, got, n)
		}
	}
}

// TestForm holds the bytes of what dir takes from here: there the document says what they are.
func TestForm(t *testing.T) {
	for n, want := range map[int]string{0: "00", 1: "0162", 128: "8001" + strings.Repeat("62", 128)} {
		if got := fmt.Sprintf("%x", pack.Bytes(bytes.Repeat([]byte("b"), n))); got != want {
			t.Errorf("%d Bytes: got %s, want %s", n, got, want)
		}
		if got := fmt.Sprintf("%x", pack.List(slices.Repeat([]int{0x62}, n), pack.Number)); got != want {
			t.Errorf("a List of %d: got %s, want %s", n, got, want)
		}
	}
}

// all puts something of each kind, one behind the other.
func all() []byte {
	return slices.Concat(
		pack.Val(api.Val{Kind: api.I64, N: -300}), pack.Bytes([]byte("abc")), pack.Bytes(nil), pack.List([]int{5, 600}, pack.Number), pack.List(nil, pack.Val),
		pack.List([]api.Val{{Kind: api.I32, N: math.MinInt32}, {}}, pack.Val), pack.Signed(-7),
	)
}

// read tells what is read where all has put it.
func read(b []byte) string {
	r := pack.NewReader(b)
	text := fmt.Sprintln(r.Val(), string(r.Bytes()), len(r.Bytes()))
	text += fmt.Sprintln(pack.ListOf(r, 2, (*pack.Reader).Number), pack.ListOf(r, 0, (*pack.Reader).Val), pack.ListOf(r, 2, (*pack.Reader).Val), r.Signed())
	return text
}

func TestAll(t *testing.T) {
	if got, want := read(all()), "{2 -300} abc 0\n[5 600] [] [{1 -2147483648} {0 0}] -7\n"; got != want {
		t.Errorf("got %s, want %s", got, want)
	}
}

// TestFaults holds that behind a fault only zeros are read, and that reading ends.
func TestFaults(t *testing.T) {
	b := all()
	for cut := range b {
		read(b[:cut])
	}
	for k := range b {
		for n := range 256 {
			x := slices.Clone(b)
			x[k] = byte(n)
			read(x)
		}
	}
	for _, bad := range [][]byte{nil, {0x80}, {0x80, 0x00, 5}, {0xff, 0xff, 0xff, 0xff, 0x1f, 5}, bytes.Repeat([]byte{0x80}, 20)} {
		r := pack.NewReader(bad)
		if n := r.Number(); n != 0 || r.Number() != 0 || r.Signed() != 0 || r.Val() != (api.Val{}) || len(r.Bytes()) != 0 || len(pack.ListOf(r, 5, (*pack.Reader).Val)) != 0 {
			t.Errorf("behind %x: %d, and more", bad, n)
		}
	}
	r := pack.NewReader([]byte{4, 1, 2, 3})
	if b := r.Bytes(); len(b) != 0 || r.Number() != 0 {
		t.Errorf("Bytes, of which one is missing: %x", b)
	}
	r = pack.NewReader([]byte{3, 1, 2, 3, 9})
	if l := pack.ListOf(r, 2, (*pack.Reader).Number); len(l) != 0 || r.Number() != 0 {
		t.Errorf("a list of more than there may be: %v", l)
	}
	r = pack.NewReader([]byte{3, 1, 2, 3, 9})
	if l := pack.ListOf(r, 3, (*pack.Reader).Number); !slices.Equal(l, []int{1, 2, 3}) || r.Number() != 9 {
		t.Errorf("a list of as many as there may be: %v", l)
	}
}
