package super

import (
	"bytes"
	"math"
	"slices"

	"diapause/api"
	"diapause/crc"
	"diapause/dev"
	"diapause/pack"
)

const (
	most   = 40             // bytes of a text
	summed = api.Sector - 4 // bytes ahead of their sum
)

// record is a text with its turn; a turn of 0 means that there is none.
type record struct {
	turn int64
	text []byte
}

// encoded returns the sector that holds the record: all of it counts for the sum, so that no bit can change unseen.
func (r record) encoded() []byte {
	b := slices.Concat(pack.Signed(r.turn), pack.Bytes(r.text))
	b = append(b, make([]byte, summed-len(b))...)
	sum := crc.Sum(b)
	return append(b, byte(sum), byte(sum>>8), byte(sum>>16), byte(sum>>24))
}

// decoded returns the record whose sector is b, or none.
func decoded(b []byte) record {
	from := pack.NewReader(b)
	var r record
	r.turn = from.Signed()
	r.text = from.Bytes()
	// Behind the greatest turn there would be none for the next Save.
	if r.turn < 1 || r.turn == math.MaxInt64 || len(r.text) > most || !bytes.Equal(r.encoded(), b) {
		return record{}
	}
	return r
}

// store writes the record to these sectors, and makes it durable.
func (r record) store(d *dev.Dev, sectors ...int) api.Errno {
	b := r.encoded()
	for _, i := range sectors {
		if err := d.Write(i, b); err != api.OK {
			return err
		}
	}
	return d.Flush()
}
