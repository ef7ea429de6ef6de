package super_test

import (
	"strconv"
	"testing"

	"diapause/api"
	"diapause/dev"
	"diapause/super"
)

// pair returns the two sectors of a device that stands behind so many texts.
func pair(t *testing.T, turn int) [2]string {
	t.Helper()
	d, _ := stored(t, turn)
	l := sectors(t, d)
	return [2]string{l[1], l[2]}
}

// on makes a device whose sectors 1 and 2 are these.
func on(t *testing.T, low, high []byte) *dev.Dev {
	t.Helper()
	d := dev.New(4)
	put(t, d, 1, low)
	put(t, d, 2, high)
	return d
}

// TestCopied holds that the two sectors are all there is of a text.
func TestCopied(t *testing.T) {
	for turn := 1; turn < 6; turn++ {
		p := pair(t, turn)
		d := on(t, []byte(p[0]), []byte(p[1]))
		s := opens(t, d, 1, "copied sectors", text(turn), int64(turn))
		saves(t, s, d, 1, "copied sectors", text(turn+1), int64(turn+1))
	}
}

// TestOneBitOfOne alters each bit of one of the two sectors: the text of the other one is found.
func TestOneBitOfOne(t *testing.T) {
	for turn := 1; turn < 5; turn++ {
		p := pair(t, turn)
		found := [2]int{}
		for bit := range 512 {
			for k := range 2 {
				b := [2][]byte{[]byte(p[0]), []byte(p[1])}
				b[k] = altered(p[k], bit)
				d := on(t, b[0], b[1])
				about := "the bit " + strconv.Itoa(bit) + " of the sector " + strconv.Itoa(k) + " behind " + strconv.Itoa(turn)
				s, err := super.Open(d, 1)
				if err != api.OK {
					t.Fatalf("P18.1: %s: Open: %d", about, err)
				}
				left := int(s.Turn())
				if bit > 0 && left != found[k] {
					t.Errorf("P18.1: %s: Open finds the turn %d, and behind other bits %d", about, left, found[k])
				}
				found[k] = left
				has(t, s, about, text(left), int64(left))
				saves(t, s, d, 1, about, text(left+1), int64(left+1))
				saves(t, s, d, 1, about, text(left+2), int64(left+2))
			}
		}
		// Which sector has which one is nobody's business, but one of them has the last.
		if max(found[0], found[1]) != turn || turn > 1 && min(found[0], found[1]) != turn-1 || turn == 1 && found[0] != found[1] {
			t.Errorf("P18.1: behind %d: the sectors have the turns %d and %d", turn, found[1], found[0])
		}
	}
}

// TestOneBitOfBoth alters a bit of each of the two sectors: there is none left.
func TestOneBitOfBoth(t *testing.T) {
	for turn := 1; turn < 4; turn++ {
		p := pair(t, turn)
		for bit := range 512 {
			for _, other := range []int{bit, 511 - bit, 0, 7, 8, 100, 479, 480, 511, (bit*37 + 11) % 512} {
				lost(t, on(t, altered(p[0], bit), altered(p[1], other)), 1, "the bits "+strconv.Itoa(bit)+" and "+strconv.Itoa(other))
			}
		}
		d := on(t, altered(p[0], 5), altered(p[1], 300))
		s := makes(t, d, 1, "over altered bits", "new")
		saves(t, s, d, 1, "over altered bits", "newer", 2)
	}
}

// TestBytesOfBoth puts other bytes in place of each byte of both sectors, also of several that stand together.
func TestBytesOfBoth(t *testing.T) {
	p := pair(t, 3)
	for from := range 64 {
		for n := 1; n <= 4 && from+n <= 64; n++ {
			for seed := range 12 {
				low, high := []byte(p[0]), []byte(p[1])
				for k := range n {
					x := byte(37*seed+k) | 1
					low[from+k] ^= x
					high[from+k] ^= x
				}
				lost(t, on(t, low, high), 1, "other bytes")
			}
		}
	}
}

// TestPartsOfBoth holds that a part of a text, with zeros or with what was there before behind it, is none.
func TestPartsOfBoth(t *testing.T) {
	elder, newer := pair(t, 3), pair(t, 5)
	for n := 1; n < 64; n++ {
		low, high := make([]byte, 64), make([]byte, 64)
		copy(low, newer[0][:n])
		copy(high, newer[1][:n])
		if string(low) == newer[0] || string(high) == newer[1] {
			t.Fatalf("P18.1: a sector ends with zeros behind %d bytes", n)
		}
		lost(t, on(t, low, high), 1, "the first bytes of both")
		copy(low[n:], elder[0][n:])
		copy(high[n:], elder[1][n:])
		lost(t, on(t, low, high), 1, "the first bytes of both over elder ones")
	}
}
