package super_test

import (
	"bytes"
	"math"
	"slices"
	"strings"
	"testing"

	"diapause/api"
	"diapause/crc"
	"diapause/leb"
	"diapause/super"
)

// sealed makes a sector of these bytes, with zeros behind them, and of their sum.
func sealed(b []byte) []byte {
	b = append(slices.Clone(b), make([]byte, 60-len(b))...)
	sum := crc.Sum(b)
	return append(b, byte(sum), byte(sum>>8), byte(sum>>16), byte(sum>>24))
}

// forged makes the sector of a text and a turn, whatever they are.
func forged(turn int64, text string) []byte {
	return sealed(slices.Concat(leb.PutS(nil, turn), leb.PutU(nil, uint64(len(text))), []byte(text)))
}

// TestForm holds the form of the sectors that the other tests of this file make, so that these test what they mean to.
func TestForm(t *testing.T) {
	for turn := 1; turn < 9; turn++ {
		p := pair(t, turn)
		want := []string{string(forged(int64(turn), text(turn))), string(forged(int64(max(turn-1, 1)), text(max(turn-1, 1))))}
		if !slices.Contains(p[:], want[0]) || !slices.Contains(p[:], want[1]) {
			t.Errorf("behind %d texts: the sectors are %x", turn, p)
		}
	}
}

// TestGreatTurns holds turns that no one has the time to wait for.
func TestGreatTurns(t *testing.T) {
	for _, turn := range []int64{1, 63, 64, 127, 128, 8191, 8192, math.MaxInt32 - 1, math.MaxInt32, 1 << 31, math.MaxUint32, 1 << 32, 1<<53 + 1, 1 << 62, math.MaxInt64 - 3} {
		for _, text := range []string{"", "great", strings.Repeat("x", 40)} {
			for k := range 2 {
				b := [2][]byte{mixed(64, 1), mixed(64, 2)}
				b[k] = forged(turn, text)
				d := on(t, b[0], b[1])
				s := opens(t, d, 1, "a great turn", text, turn)
				saves(t, s, d, 1, "a great turn", "two", turn+1)
				saves(t, s, d, 1, "a great turn", text, turn+2)
				makes(t, d, 1, "over a great turn", "new")
			}
		}
	}
}

// takes holds that Open finds this text in these sectors, and that Save writes to the other one alone, also if the device dies within it.
func takes(t *testing.T, sector [2][]byte, about string, k int, text string, turn int64) {
	t.Helper()
	d := on(t, sector[0], sector[1])
	s := opens(t, d, 1, about, text, turn)
	d.Fuse(1)
	if err := s.Save([]byte("next")); err != api.ErrDown {
		t.Errorf("P18.1: %s: Save on a device that dies: %d", about, err)
	}
	opens(t, d.Crash(), 1, about+", behind a death", text, turn)
	opens(t, d.Crash(true), 1, about+", behind a death", "next", turn+1)
	if left := sectors(t, d); left[1+k] != string(sector[k]) || left[2-k] == string(sector[1-k]) {
		t.Errorf("P18.1: %s: Save wrote over the text that was stored", about)
	}
}

// TestGreaterTurn holds that the greater turn counts, wherever it stands.
func TestGreaterTurn(t *testing.T) {
	turns := []int64{1, 2, 3, 4, 9, 63, 64, 255, 256, 257, 1 << 31, 1 << 32, 1<<32 + 1, 1 << 62}
	for _, low := range turns {
		for _, high := range turns {
			sector := [2][]byte{forged(low, "low"), forged(high, "high")}
			switch {
			case low > high:
				takes(t, sector, "the greater turn below", 0, "low", low)
			case low < high:
				takes(t, sector, "the greater turn above", 1, "high", high)
			}
		}
	}
}

// TestSameTurn holds that one of two texts of the same turn counts, which a death within Make can leave, and always the same one.
func TestSameTurn(t *testing.T) {
	for turn := range int64(5) {
		sector := [2][]byte{forged(turn+1, "low"), forged(turn+1, "high")}
		s, err := super.Open(on(t, sector[0], sector[1]), 1)
		if err != api.OK {
			t.Fatalf("P18.1: Open of two texts of one turn: %d", err)
		}
		switch left := string(s.Text()); left {
		case "low":
			takes(t, sector, "two texts of one turn", 0, left, turn+1)
		case "high":
			takes(t, sector, "two texts of one turn", 1, left, turn+1)
		default:
			t.Errorf("P18.1: Open of two texts of one turn: %q", left)
		}
	}
}

// TestNoneButTheForm holds that a sector which neither Make nor Save can have written is none, though its sum is right.
func TestNoneButTheForm(t *testing.T) {
	one := append(leb.PutS(nil, 1), 3, 'a', 'b', 'c')
	bad := map[string][]byte{
		"the turn 0":                       forged(0, "abc"),
		"the turn 0 and no text":           forged(0, ""),
		"the turn -1":                      forged(-1, "abc"),
		"the least turn":                   forged(math.MinInt64, "abc"),
		"a turn that none can follow":      forged(math.MaxInt64, "abc"),
		"a turn of too many bytes":         sealed(append([]byte{0x81, 0x00}, one[1:]...)),
		"a turn of more than 64 bits":      sealed(append(bytes.Repeat([]byte{0x81}, 12), one...)),
		"a turn without an end":            sealed(bytes.Repeat([]byte{0x81}, 60)),
		"41 bytes":                         forged(1, strings.Repeat("x", 41)),
		"58 bytes":                         forged(1, strings.Repeat("x", 58)),
		"more bytes than there are":        sealed([]byte{1, 59}),
		"far more bytes than there are":    sealed(slices.Concat([]byte{1}, leb.PutU(nil, math.MaxUint32))),
		"a length of more than 32 bits":    sealed(slices.Concat([]byte{1}, leb.PutU(nil, math.MaxUint64))),
		"a length of too many bytes":       sealed([]byte{1, 0x83, 0x00, 'a', 'b', 'c'}),
		"a length without an end":          sealed(append([]byte{1}, bytes.Repeat([]byte{0x83}, 59)...)),
		"something behind the text":        sealed(append(slices.Clone(one), 0, 0, 1)),
		"something ahead of the sum":       sealed(append(slices.Clone(one), append(make([]byte, 60-len(one)-1), 1)...)),
		"zeros and their sum":              sealed(nil),
		"the sum of less":                  append(sealed(one)[:60], bytes.Repeat([]byte{0x11}, 4)...),
		"no sum":                           append(sealed(one)[:60], 0, 0, 0, 0),
		"the sum the other way round":      turned(sealed(one)),
		"the sum's complement":             complement(sealed(one)),
		"a text that begins one byte late": append([]byte{0}, sealed(one)[:63]...),
	}
	for about, b := range bad {
		lost(t, on(t, b, mixed(64, 1)), 1, about)
		lost(t, on(t, mixed(64, 1), b), 1, about)
		lost(t, on(t, b, b), 1, about)
		s := opens(t, on(t, forged(1, "good"), b), 1, about+" behind a good one", "good", 1)
		has(t, s, about, "good", 1)
		opens(t, on(t, b, forged(1, "good")), 1, about+" ahead of a good one", "good", 1)
	}
	opens(t, on(t, sealed(one), mixed(64, 1)), 1, "the good one", "abc", 1)
}

// turned makes a sector whose sum has its bytes the other way round.
func turned(b []byte) []byte {
	slices.Reverse(b[60:])
	return b
}

// complement makes a sector of whose sum each bit is another one.
func complement(b []byte) []byte {
	for k := 60; k < 64; k++ {
		b[k] = ^b[k]
	}
	return b
}
