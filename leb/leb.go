// Package leb encodes integers as LEB128: see doc/01-leb.md.
package leb

import (
	"diapause/api"
)

const (
	width   = 7    // bits of a group: what one byte holds
	mask    = 0x7f // a byte's group
	more    = 0x80 // set in each byte but the last
	sign    = 0x40 // of a group that ends a signed integer
	longest = 10   // bytes of 64 bits
	maxBits = 64
)

// PutU returns b, followed by the unsigned encoding of n.
func PutU(b []byte, n uint64) []byte {
	out := fresh(b)
next:
	if n >= more {
		out = append(out, byte(n)|more)
		n >>= width
		goto next
	}
	return append(out, byte(n))
}

// PutS returns b, followed by the signed encoding of n.
func PutS(b []byte, n int64) []byte {
	out := fresh(b)
next:
	if n < -sign || n >= sign {
		out = append(out, byte(n)|more)
		n >>= width
		goto next
	}
	return append(out, byte(n)&mask)
}

// U decodes the unsigned integer of so many bits at the beginning of b, and tells how many bytes it takes.
func U(b []byte, bits int) (uint64, int, api.Errno) {
	end, err := last(b, bits)
	if err != api.OK {
		return 0, 0, err
	}
	top := b[end]
	if end > 0 && top == 0 || top>>room(end, bits) != 0 {
		return 0, 0, api.ErrForm
	}
	return join(uint64(top), b[:end]), end + 1, api.OK
}

// S decodes the signed integer of so many bits at the beginning of b, and tells how many bytes it takes.
func S(b []byte, bits int) (int64, int, api.Errno) {
	end, err := last(b, bits)
	if err != api.OK {
		return 0, 0, err
	}
	top := extend(b[end])
	// A last group that only repeats the sign of the one before it could have been left out.
	if end > 0 && top == extend(b[end-1])>>width {
		return 0, 0, api.ErrForm
	}
	// The bits from the integer's highest one up must all be equal to its sign.
	if top>>(room(end, bits)-1) != top>>width {
		return 0, 0, api.ErrForm
	}
	return int64(join(uint64(top), b[:end])), end + 1, api.OK
}

// fresh copies b, as neither b nor what is spare behind it may change, and leaves room for one integer.
func fresh(b []byte) []byte {
	return append(make([]byte, 0, len(b)+longest), b...)
}

// last finds the byte that ends an integer of so many bits at the beginning of b.
func last(b []byte, bits int) (int, api.Errno) {
	if bits < 1 || bits > maxBits {
		return 0, api.ErrRange
	}
	most := (bits + width - 1) / width
	i := 0
next:
	if i == most {
		return 0, api.ErrForm
	}
	if i == len(b) {
		return 0, api.ErrMore
	}
	if b[i]&more != 0 {
		i++
		goto next
	}
	return i, api.OK
}

// room tells how many of so many bits are left for byte i and those behind it: one at least, where last found i.
func room(i, bits int) int {
	return bits - width*i
}

// extend makes a byte's group a signed number.
func extend(x byte) int8 {
	return int8(x<<1) >> 1
}

// join puts the groups of low below n.
func join(n uint64, low []byte) uint64 {
	i := len(low)
next:
	if i > 0 {
		i--
		n = n<<width | uint64(low[i]&mask)
		goto next
	}
	return n
}
