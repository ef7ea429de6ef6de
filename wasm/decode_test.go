package wasm_test

import (
	"bytes"
	"math"
	"slices"
	"strconv"
	"strings"
	"testing"

	"diapause/api"
	"diapause/code"
	"diapause/wasm"
)

// wrap makes a section of its content, with the right number of bytes.
func wrap(number byte, content []byte) []byte {
	return append([]byte{number}, in(content)...)
}

// sections are those of an encoding, one by one, and their contents.
func sections(t *testing.T, b []byte) (whole, content [][]byte) {
	t.Helper()
	p := &parser{b[8:]}
	for len(p.b) > 0 {
		at := p.b
		p.bytes(1)
		content = append(content, p.inner().b)
		whole = append(whole, at[:len(at)-len(p.b)])
	}
	return whole, content
}

// module puts the header before sections.
func module(all ...[]byte) []byte {
	return append([]byte("\x00asm\x01\x00\x00\x00"), bytes.Join(all, nil)...)
}

// some are modules with all that an encoding may hold.
func some() map[string]api.Module {
	all := alone()
	all["all"] = full()
	all["none"] = api.Module{}
	all["one Type"] = api.Module{Types: []api.Type{{Params: []int{1, 2}, Results: []int{1}}}}
	all["runs"] = onlyCode([]int{2, 2, 1, 1, 1, 2}, api.Instr{Op: 0x0f})
	all["great numbers"] = api.Module{
		Imports: []api.Import{{Mod: "x", Name: "y", Type: 128}},
		Globals: []api.Global{{Init: api.Val{Kind: api.I32, N: math.MinInt32}}},
		Elems:   []api.Elem{{Off: math.MaxInt32, Funcs: []int{1000}}},
		Mem:     api.Limits{Has: true, Min: 16, Max: 65536},
	}
	return all
}

// refuse holds that b, which follows the header, is no encoding; about tells what is wrong with it.
func refuse(t *testing.T, s, about string) {
	t.Helper()
	b := unhex(t, head+s)
	m, err := wasm.Decode(b)
	if !same(m, api.Module{}) || err != api.ErrForm {
		t.Errorf("P7.1: Decode of %s behind the header, %s: got %v, %d", s, about, m, err)
	}
	compareBytes(t, b, about)
}

func TestDecodeOfHeaders(t *testing.T) {
	good := unhex(t, head)
	for at := range good {
		compareBytes(t, good[:at], "a part of the header")
		if m, err := wasm.Decode(good[:at]); !same(m, api.Module{}) || err != api.ErrForm {
			t.Errorf("P7.1: Decode of %d bytes of the header: got %v, %d", at, m, err)
		}
		for n := range 256 {
			b := bytes.Clone(good)
			b[at] = byte(n)
			if _, err := wasm.Decode(b); (err == api.OK) != (byte(n) == good[at]) {
				t.Errorf("P7.1: Decode of the header %x: got %d", b, err)
			}
			refuse(t, strconv.FormatInt(int64(n)+256, 16)[1:], "one byte behind the header")
		}
	}
	if m, err := wasm.Decode(good); !same(m, api.Module{}) || err != api.OK {
		t.Errorf("P7.1: Decode of the header alone: got %v, %d", m, err)
	}
	// What is spare behind the bytes does not belong to them.
	if m, err := wasm.Decode(unhex(t, head+"0104 01600000")[:8]); !same(m, api.Module{}) || err != api.OK {
		t.Errorf("P7.1: Decode reads spare capacity: got %v, %d", m, err)
	}
	if _, err := wasm.Decode(good[:7]); err != api.ErrForm {
		t.Errorf("P7.1: Decode reads spare capacity: got %d", err)
	}
}

// TestDecodeOfPrefixes holds every proper prefix: a module only where the sections that are left make one.
func TestDecodeOfPrefixes(t *testing.T) {
	for name, m := range some() {
		b := encode(m)
		whole, _ := sections(t, b)
		ends := map[int]bool{8: true}
		at := 8
		for _, s := range whole {
			at += len(s)
			ends[at] = true
		}
		for cut := range b {
			compareBytes(t, b[:cut], "a prefix of "+name)
			if _, err := wasm.Decode(b[:cut]); err != api.ErrForm && !ends[cut] {
				t.Errorf("P7.1: Decode of %d of the %d bytes of %s: got %d", cut, len(b), name, err)
			}
		}
	}
}

// TestDecodeOfMore holds bytes behind an encoding.
func TestDecodeOfMore(t *testing.T) {
	for name, m := range some() {
		b := encode(m)
		for n := range 256 {
			more := append(bytes.Clone(b), byte(n))
			if x, err := wasm.Decode(more); !same(x, api.Module{}) || err != api.ErrForm {
				t.Errorf("P7.1: Decode of %s with the byte %d behind it: got %v, %d", name, n, x, err)
			}
			compareBytes(t, append(more, 0), "two bytes behind "+name)
			compareBytes(t, append(more, 1, 0), "three bytes behind "+name)
		}
		compareBytes(t, slices.Concat(b, b), name+" twice")
		compareBytes(t, slices.Concat(b, make([]byte, 100)), name+" with noughts behind it")
	}
}

// TestDecodeOfLength holds the greatest number of bytes.
func TestDecodeOfLength(t *testing.T) {
	for size := 7990; size <= 8010; size++ {
		b := encode(long(size))
		want := api.OK
		if size > 8000 {
			want = api.ErrLimit
		}
		if m, err := wasm.Decode(b); err != want || err == api.OK && !same(m, long(size)) {
			t.Errorf("P7.1: Decode of %d bytes: got %d", len(b), err)
		}
		compareBytes(t, b, "long")
	}
	for _, c := range []struct {
		b    []byte
		want api.Errno
	}{
		{make([]byte, 8000), api.ErrForm},
		{make([]byte, 8001), api.ErrLimit},
		{make([]byte, 1<<20), api.ErrLimit},
		{append(encode(full()), make([]byte, 8000-len(encode(full())))...), api.ErrForm},
		{append(encode(full()), make([]byte, 8001-len(encode(full())))...), api.ErrLimit},
		{bytes.Repeat([]byte{0xff}, 8000), api.ErrForm},
		{bytes.Repeat([]byte{0xff}, 8001), api.ErrLimit},
		{append(encode(long(8000)), 0), api.ErrLimit},
		{encode(long(8000))[:7999], api.ErrForm},
	} {
		if m, err := wasm.Decode(c.b); !same(m, api.Module{}) || err != c.want {
			t.Errorf("P7.1: Decode of %d bytes: got %v, %d; want %d", len(c.b), m, err, c.want)
		}
	}
}

// TestDecodeOfSections holds which sections there are, how often, and in which order.
func TestDecodeOfSections(t *testing.T) {
	whole, content := sections(t, encode(full()))
	try := func(all [][]byte, about string) {
		t.Helper()
		if m, err := wasm.Decode(module(all...)); !same(m, api.Module{}) || err != api.ErrForm {
			t.Errorf("P7.1: Decode with %s: got %v, %d", about, m, err)
		}
		compareBytes(t, module(all...), about)
	}
	for k := range whole {
		number := strconv.Itoa(int(whole[k][0]))
		for at := range len(whole) + 1 {
			if at != k && at != k+1 {
				try(slices.Insert(slices.Delete(slices.Clone(whole), k, k+1), at-max(0, min(1, at-k)), whole[k]), "another place for the section "+number)
			}
			try(slices.Insert(slices.Clone(whole), at, whole[k]), "twice the section "+number)
		}
		for j := range k {
			swapped := slices.Clone(whole)
			swapped[j], swapped[k] = swapped[k], swapped[j]
			try(swapped, "a swap of the section "+number)
		}
		compareBytes(t, module(slices.Delete(slices.Clone(whole), k, k+1)...), "without the section "+number)
		empty := slices.Clone(whole)
		empty[k] = []byte{whole[k][0], 1, 0}
		try(empty, "no element in the section "+number)
		try([][]byte{{whole[k][0], 1, 0}}, "nothing but an empty section "+number)
		try([][]byte{{whole[k][0], 0}}, "nothing in the section "+number)
		try([][]byte{{whole[k][0]}}, "nothing of the section "+number)
		two := slices.Clone(whole)
		two[k] = append(wrap(whole[k][0], content[k]), wrap(whole[k][0], content[k])...)
		try(two, "the section divided "+number)
	}
	for number := range 256 {
		if number >= 1 && number <= 11 && number != 8 {
			continue
		}
		for at := range len(whole) + 1 {
			for _, c := range [][]byte{nil, {0}, {1, 0}, {2, 'a', 'b'}, content[0]} {
				try(slices.Insert(slices.Clone(whole), at, wrap(byte(number), c)), "a section of the number "+strconv.Itoa(number))
			}
		}
	}
}

// faults are contents of sections in which one thing is wrong, under their numbers; the first of each row is right.
func faults() map[byte][][]string {
	return map[byte][][]string{
		1: {
			{"01 60 00 00", "01 61 00 00", "01 5f 00 00", "01 00 00 00", "01 40 00 00", "02 60 00 00", "00 60 00 00", "8100 60 00 00", "01 60 8000 00", "01 60 00 8000", "01 60 00 00 00", "01 60 00", "ffffffff0f 60 00 00"},
			{"01 60 01 7f 00", "01 60 01 7d 00", "01 60 01 7c 00", "01 60 01 40 00", "01 60 01 00 00", "01 60 01 01 00", "01 60 01 02 00", "01 60 01 ff 00", "01 60 01 80 00", "01 60 8100 7f 00", "01 60 02 7f 00", "01 60 00 7f 00", "01 60 81808000 7f 00", "01 60 01 ff00 00"},
			{"01 60 00 01 7e", "01 60 00 01 7d", "01 60 00 01 40", "01 60 00 01 00", "01 60 00 01 02", "01 60 00 02 7e", "01 60 00 02 7e 7e", "01 60 00 8100 7e", "01 60 00 ffffffff0f 7e"},
			{"01 60 20" + strings.Repeat("7e", 32) + "00", "01 60 21" + strings.Repeat("7e", 33) + "00", "01 60 20" + strings.Repeat("7e", 33) + "00"},
			{"10" + strings.Repeat("600000", 16), "11" + strings.Repeat("600000", 17), "10" + strings.Repeat("600000", 15), "0f" + strings.Repeat("600000", 16)},
		},
		2: {
			{"01 0161 0162 00 03", "01 0161 0162 01 03", "01 0161 0162 02 03", "01 0161 0162 03 03", "01 0161 0162 80 03", "01 0161 0162 00 8300", "01 0161 0162 00 e907", "01 0161 0162 00 ffffffff0f", "01 0161 0162 00 8080808010", "01 00 0162 00 03", "01 0161 00 00 03", "01 810061 0162 00 03", "01 0161 810062 00 03", "01 0261 0162 00 03", "8100 0161 0162 00 03", "00 0161 0162 00 03", "02 0161 0162 00 03", "01 011f 0162 00 03", "01 017f 0162 00 03", "01 0161 011f 00 03", "01 0161 017f 00 03", "01 0161 01ff 00 03", "01 0161 ffffffff0f 00 03"},
			{"01 10" + strings.Repeat("61", 16) + "0162 00 03", "01 11" + strings.Repeat("61", 17) + "0162 00 03", "01 10" + strings.Repeat("61", 17) + "0162 00 03"},
			{"01 0161 10" + strings.Repeat("62", 16) + "00 03", "01 0161 11" + strings.Repeat("62", 17) + "00 03"},
			{"10" + strings.Repeat("0161 0162 00 03", 16), "11" + strings.Repeat("0161 0162 00 03", 17)},
		},
		4: {
			{"01 70 00 03", "01 6f 00 03", "01 71 00 03", "01 00 00 03", "01 70 02 03", "01 70 80 03", "01 70 01 03", "01 70 00 8300", "01 70 00 11", "00 70 00 03", "02 70 00 03", "02 70 00 03 70 00 03", "8100 70 00 03", "01 70 00 03 00", "01 70 00 ffffffff0f", "01 00 03"},
			{"01 70 01 03 04", "01 70 00 03 04", "01 70 02 03 04", "01 70 03 03 04", "01 70 01 03 8400", "01 70 01 8300 04", "01 70 01 11 12", "01 70 01 03 e907", "01 70 01 03 ffffffff0f", "01 70 01 03 7f 7f"},
		},
		5: {
			{"01 00 03", "01 02 03", "01 80 03", "01 01 03", "01 00 8300", "01 00 11", "00 00 03", "02 00 03", "02 00 03 00 03", "8100 00 03", "01 00 03 00", "01 70 00 03"},
			{"01 01 03 808004", "01 00 03 808004", "01 03 03 808004", "01 01 03 818004", "01 01 03 80808400", "01 01 03 ffffffff0f", "01 01 03 ffffffff1f", "01 01 11 808004"},
		},
		6: {
			{"01 7f 00 41 05 0b", "01 7e 00 41 05 0b", "01 7d 00 41 05 0b", "01 40 00 41 05 0b", "01 01 00 41 05 0b", "01 7f 02 41 05 0b", "01 7f 03 41 05 0b", "01 7f 80 41 05 0b", "01 7f ff 41 05 0b", "01 7f 00 42 05 0b", "01 7f 00 43 05 0b", "01 7f 00 23 05 0b", "01 7f 00 01 0b", "01 7f 00 41 05 0a", "01 7f 00 41 05 00", "01 7f 00 41 05 0b 0b", "01 7f 00 41 05", "01 7f 00 0b", "01 7f 00 41 8500 0b", "01 7f 00 41 8080808008 0b", "8100 7f 00 41 05 0b", "00 7f 00 41 05 0b", "02 7f 00 41 05 0b", "01 7f 00 41 05 01 0b", "01 7f 00 41 05 05", "01 7f 00 8b 0b"},
			{"01 7e 01 42 7f 0b", "01 7f 01 42 7f 0b", "01 7e 01 41 7f 0b", "01 7e 01 42 ff7f 0b", "01 7e 01 42 7f 0f", "01 7e 02 42 7f 0b", "01 7e 41 42 7f 0b"},
			{"10" + strings.Repeat("7f 00 41 05 0b", 16), "11" + strings.Repeat("7f 00 41 05 0b", 17)},
		},
		7: {
			{"01 0178 00 02", "01 0178 01 02", "01 0178 02 02", "01 0178 03 02", "01 0178 80 02", "01 0178 00 8200", "01 0178 00 e907", "01 00 00 02", "01 0278 00 02", "01 810078 00 02", "8100 0178 00 02", "00 0178 00 02", "02 0178 00 02", "01 0178 00 02 00", "01 017f 00 02", "01 011f 00 02", "01 0178 00 ffffffff1f"},
			{"01 10" + strings.Repeat("7e", 16) + "00 02", "01 11" + strings.Repeat("7e", 17) + "00 02"},
			{"10" + strings.Repeat("0178 00 02", 16), "11" + strings.Repeat("0178 00 02", 17)},
		},
		9: {
			{"01 00 41 02 0b 01 05", "01 01 41 02 0b 01 05", "01 02 41 02 0b 01 05", "01 80 41 02 0b 01 05", "01 00 42 02 0b 01 05", "01 00 01 0b 01 05", "01 00 41 02 0a 01 05", "01 00 41 8200 0b 01 05", "01 00 41 02 0b 8100 05", "01 00 41 02 0b 01 8500", "01 00 41 02 0b 01 e907", "01 00 41 02 0b 02 05", "01 00 41 02 0b 00 05", "8100 00 41 02 0b 01 05", "00 00 41 02 0b 01 05", "02 00 41 02 0b 01 05", "01 00 23 02 0b 01 05", "01 00 41 8080808008 0b 01 05", "01 00 42 8080808008 0b 01 05", "01 00 41 02 0b ffffffff0f 05"},
			{"01 00 41 02 0b 32" + strings.Repeat("05", 50), "01 00 41 02 0b 33" + strings.Repeat("05", 51), "01 00 41 02 0b 32" + strings.Repeat("05", 51)},
			{"10" + strings.Repeat("00 41 02 0b 00", 16), "11" + strings.Repeat("00 41 02 0b 00", 17)},
		},
		11: {
			{"01 00 41 02 0b 02 6869", "01 01 41 02 0b 02 6869", "01 02 41 02 0b 02 6869", "01 80 41 02 0b 02 6869", "01 00 42 02 0b 02 6869", "01 00 0b 02 6869", "01 00 41 02 01 02 6869", "01 00 41 8200 0b 02 6869", "01 00 41 02 0b 8200 6869", "01 00 41 02 0b 01 6869", "01 00 41 02 0b 03 6869", "8100 00 41 02 0b 02 6869", "00 00 41 02 0b 02 6869", "02 00 41 02 0b 02 6869", "01 00 41 ffffffff77 0b 02 6869", "01 00 41 02 0b ffffffff0f 6869"},
			{"01 00 41 02 0b e807" + strings.Repeat("00", 1000), "01 00 41 02 0b e907" + strings.Repeat("00", 1001)},
			{"10" + strings.Repeat("00 41 02 0b 00", 16), "11" + strings.Repeat("00 41 02 0b 00", 17)},
		},
	}
}

// TestDecodeOfSmallFaults holds contents in which a single thing is wrong, but not the number of their bytes.
func TestDecodeOfSmallFaults(t *testing.T) {
	for number, rows := range faults() {
		for _, row := range rows {
			for k, s := range row {
				b := module(wrap(number, unhex(t, s)))
				if _, err := wasm.Decode(b); (err == api.OK) != (k == 0) || err != api.OK && err != api.ErrForm {
					t.Errorf("P7.1: Decode of the section %d of %s: got %d", number, s, err)
				}
				compareBytes(t, b, "a small fault")
			}
			sizes(t, number, unhex(t, row[0]), nil)
		}
	}
}

// sizes gives a right content a number of bytes that is wrong, or not in the shortest form.
func sizes(t *testing.T, number byte, content, before []byte) {
	t.Helper()
	good := module(before, wrap(number, content))
	if _, err := wasm.Decode(good); err != api.OK {
		t.Errorf("P7.1: Decode of the section %d of %x: got %d", number, content, err)
	}
	k := len(content)
	short := unsigned(k)
	longer := bytes.Clone(short)
	longer[len(longer)-1] |= 0x80
	for _, size := range [][]byte{
		unsigned(k - 1), unsigned(k + 1), unsigned(0), unsigned(k + 128), unsigned(8000), unsigned(math.MaxUint32), unsigned(math.MaxUint32 + 1 + k),
		append(bytes.Clone(longer), 0), append(bytes.Clone(longer), 0x80, 0), append(bytes.Clone(longer), 1), longer, nil,
	} {
		b := module(before, []byte{number}, size, content)
		if m, err := wasm.Decode(b); !same(m, api.Module{}) || err != api.ErrForm {
			t.Errorf("P7.1: Decode of the section %d of %x as %x bytes: got %v, %d", number, content, size, m, err)
		}
		compareBytes(t, b, "a wrong size")
	}
}

// TestDecodeOfFuncs does the same for the sections of Funcs and Codes, which are only there together.
func TestDecodeOfFuncs(t *testing.T) {
	one := wrap(10, unhex(t, "01 02 00 0b"))
	for k, s := range []string{"01 00", "02 00 00", "00", "00 00", "02 00", "8100 00", "01 8000", "01 e907", "01 ffffffff0f", "01 80", "01 00 00", "81808000 00"} {
		b := module(wrap(3, unhex(t, s)), one)
		if _, err := wasm.Decode(b); (err == api.OK) != (k == 0) || err != api.OK && err != api.ErrForm {
			t.Errorf("P7.1: Decode of the Funcs %s: got %d", s, err)
		}
		compareBytes(t, b, "Funcs")
	}
	refuse(t, "03 02 01 00", "a Func without a Code")
	refuse(t, "0a 04 01 02 00 0b", "a Code without a Func")
	refuse(t, "0a 04 01 02 00 0b 03 02 01 00", "a Code before its Func")
	sizes(t, 10, unhex(t, "01 02 00 0b"), wrap(3, unhex(t, "01 00")))
	for k := range 18 {
		for j := range 18 {
			funcs := append(unsigned(k), make([]byte, k)...)
			codes := append(unsigned(j), bytes.Repeat([]byte{2, 0, 0x0b}, j)...)
			b := module(wrap(3, funcs), wrap(10, codes))
			if _, err := wasm.Decode(b); (err == api.OK) != (k == j && k >= 1 && k <= 16) {
				t.Errorf("P7.1: Decode of %d Funcs and %d Codes: got %d", k, j, err)
			}
			compareBytes(t, b, "Funcs and Codes")
		}
	}
}

// coded is an encoding with one code of these bytes, whose number is right.
func coded(b []byte) []byte {
	return module(wrap(3, []byte{1, 0}), wrap(10, append([]byte{1}, in(b)...)))
}

func TestDecodeOfCodes(t *testing.T) {
	for s, want := range map[string]bool{
		"00 0b": true, "00 01 0b": true, "01 017f 0b": true, "01 207f 0b": true, "02 017e 017f 0b": true, "03 017e 017f 017e 0b": true, "02 1f7e 017f 0b": true, "00 02400b 0b": true, "00 047f050b 0b": true,
		"00" + strings.Repeat("01", 300) + "0b": true, "20" + strings.Repeat("017e017f", 16) + "0b": true, "02 107e 107f 0b": true,
		// What would be a run if there were one more is the beginning of the body.
		"00 017f 0b": true, "01 017f 017e 0b": true,
		// Runs that are not as few as possible.
		"02 017f 017f 0b": false, "02 027e 017e 0b": false, "03 017f 017e 017e 0b": false, "03 017f 017f 017e 0b": false, "01 007f 0b": false, "01 007e 0b": false, "02 007f 017e 0b": false, "02 017e 007f 0b": false,
		"03 017e 007f 017e 0b": false, "02 107f 107f 0b": false, "03 017e 007f 017f 0b": false, "02 007f 007e 0b": false, "01 00 0b": false, "01 0000 0b": false,
		// Too many locals, of which some would take very much memory.
		"01 217f 0b": false, "02 207e 017f 0b": false, "02 017e 207f 0b": false, "01 ffffffff0f7f 0b": false, "02 017e ffffffff0f7f 0b": false, "02 207e ffffffff0f7f 0b": false, "ffffffff0f 017f 0b": false,
		"03 ffffffff0f7f ffffffff0f7e ffffffff0f7f 0b": false, "21" + strings.Repeat("017e017f", 16) + "017e 0b": false, "01 a0807e 0b": false, "01 80808080107f 0b": false,
		// Numbers that have another form, wrong kinds, and wrong numbers of runs.
		"8000 0b": false, "8100 017f 0b": false, "01 81007f 0b": false, "01 017d 0b": false, "01 0140 0b": false, "01 0101 0b": false, "01 01ff 0b": false, "01 0b": false, "02 017f 0b": false,
		// No body, too little of one, or too much.
		"00": false, "": false, "00 01": false, "00 0b 0b": false, "00 0b 01": false, "00 0b 00": false, "00 05 0b": false, "00 06 0b": false, "00 0240 0b": false, "00 0240 05 0b 0b": false, "00 0c e907 0b": false, "00 41 8000 0b": false, "00 02 41 0b 0b": false,
		"00" + strings.Repeat("01", 301) + "0b": false, "00" + strings.Repeat("0240", 41) + strings.Repeat("0b", 42): false, "00 0b 02 00 0b": false,
	} {
		b := coded(unhex(t, s))
		if _, err := wasm.Decode(b); (err == api.OK) != want || err != api.OK && err != api.ErrForm {
			t.Errorf("P7.1: Decode of the code %s: got %d", s, err)
		}
		compareBytes(t, b, "a code")
	}
}

// TestDecodeOfSizesOfCodes holds the numbers of the bytes of codes.
func TestDecodeOfSizesOfCodes(t *testing.T) {
	funcs := wrap(3, []byte{2, 0, 0})
	for s, want := range map[string]bool{
		"02 02000b 02000b": true, "02 0300010b 02000b": true, "02 02000b 0401017f0b": true,
		"02 01000b 02000b": false, "02 03000b 02000b": false, "02 00000b 02000b": false, "02 05000b 02000b": false, "02 06000b 02000b": false,
		"02 02000b 01000b": false, "02 02000b 03000b": false, "02 02000b 00000b": false, "02 02000b 04000b": false, "02 8200000b 02000b": false, "02 02000b 8200000b": false,
		"02 02000b 8280808000000b": false, "02 ffffffff0f000b 02000b": false, "02 02000b ffffffff0f000b": false, "02 02000b 8280808010000b": false,
		"02 0200010b 02000b": false, "02 03000b0b 02000b": false, "02 02000b 02000b 00": false, "02 02000b": false, "02 05000b02000b": false, "01 02000b": false, "03 02000b 02000b": false,
		"02 000b 02000b": false, "02 02000b 000b": false, "8200 02000b 02000b": false, "03 02000b 02000b 02000b": false, "02 02000b 02000b 02000b": false,
	} {
		b := module(funcs, wrap(10, unhex(t, s)))
		if _, err := wasm.Decode(b); (err == api.OK) != want || err != api.OK && err != api.ErrForm {
			t.Errorf("P7.1: Decode of the codes %s: got %d", s, err)
		}
		compareBytes(t, b, "the sizes of codes")
	}
}

// disturbed hands all strings to the function that differ from b by a byte: another one, one less, one more, or one that
// makes a number longer.
func disturbed(b []byte, visit func([]byte)) {
	for at := range b {
		visit(slices.Delete(bytes.Clone(b), at, at+1))
		for n := range 256 {
			changed := bytes.Clone(b)
			changed[at] = byte(n)
			visit(changed)
		}
		longer := slices.Insert(bytes.Clone(b), at+1, 0)
		longer[at] |= 0x80
		visit(longer)
		for _, n := range []byte{0, 1, 2, 0x0b, 0x20, 0x40, 0x41, 0x60, 0x70, 0x7e, 0x7f, 0x80, 0xff} {
			visit(slices.Insert(bytes.Clone(b), at, n))
		}
	}
}

// TestEverySmallFault goes through encodings that are disturbed, with the numbers of bytes as they were, and with those that are
// right for what is disturbed.
func TestEverySmallFault(t *testing.T) {
	for name, m := range some() {
		b := encode(m)
		disturbed(b, func(x []byte) { compareBytes(t, x, "disturbed: "+name) })
		whole, content := sections(t, b)
		for k := range whole {
			disturbed(content[k], func(x []byte) {
				all := slices.Clone(whole)
				all[k] = wrap(whole[k][0], x)
				compareBytes(t, module(all...), "a section disturbed: "+name)
			})
		}
		for _, c := range m.Codes {
			disturbed(codeBytes(c), func(x []byte) { compareBytes(t, coded(x), "a code disturbed: "+name) })
		}
	}
}

// TestDecodeOfNoModule holds what decodes, but is no module for May.
func TestDecodeOfNoModule(t *testing.T) {
	for k, m := range []api.Module{
		{Types: make([]api.Type, 17)},
		{Types: []api.Type{{Params: slices.Repeat([]int{1}, 33)}}},
		{Types: []api.Type{{Results: []int{1, 1}}}},
		{Imports: slices.Repeat([]api.Import{{Mod: "a", Name: "b"}}, 17)},
		{Imports: []api.Import{{Mod: "", Name: "b"}}},
		{Imports: []api.Import{{Mod: "a", Name: ""}}},
		{Imports: []api.Import{{Mod: strings.Repeat("n", 17), Name: "b"}}},
		{Imports: []api.Import{{Mod: "a", Name: strings.Repeat("n", 17)}}},
		{Imports: []api.Import{{Mod: "\x1f", Name: "b"}}},
		{Imports: []api.Import{{Mod: "a", Name: "\x7f"}}},
		{Imports: []api.Import{{Mod: "a", Name: "b", Type: 1001}}},
		{Funcs: []int{1001}, Codes: []api.Code{{}}},
		{Funcs: make([]int, 17), Codes: make([]api.Code, 17)},
		{Funcs: make([]int, 2), Codes: make([]api.Code, 1)},
		{Funcs: make([]int, 1), Codes: make([]api.Code, 2)},
		{Imports: []api.Import{{Mod: "a", Name: "b"}}, Funcs: make([]int, 16), Codes: make([]api.Code, 16)},
		{Table: api.Limits{Has: true, Min: 17, Max: -1}},
		{Table: api.Limits{Has: true, Max: 1001}},
		{Mem: api.Limits{Has: true, Min: 17, Max: -1}},
		{Mem: api.Limits{Has: true, Max: 65537}},
		{Globals: slices.Repeat([]api.Global{{Init: api.Val{Kind: 1}}}, 17)},
		{Exports: slices.Repeat([]api.Export{{Name: "x"}}, 17)},
		{Exports: []api.Export{{Name: ""}}},
		{Exports: []api.Export{{Name: strings.Repeat("n", 17)}}},
		{Exports: []api.Export{{Name: "x", Func: 1001}}},
		{Elems: make([]api.Elem, 17)},
		{Elems: []api.Elem{{Funcs: make([]int, 51)}}},
		{Elems: []api.Elem{{Funcs: []int{1001}}}},
		onlyCode(slices.Repeat([]int{1}, 33)),
		onlyCode(slices.Repeat([]int{1, 2}, 17)),
		{Datas: make([]api.Data, 17)},
		{Datas: []api.Data{{Bytes: make([]byte, 1001)}}},
	} {
		if x, err := wasm.Decode(encode(m)); !same(x, api.Module{}) || err != api.ErrForm || wasm.May(m) {
			t.Errorf("P7.1: Decode of what is no module, %d: got %v, %d", k, x, err)
		}
		compareModule(t, m, "no module")
	}
}

// TestLongStrings holds Decode against strings in which each byte could go on, and counts of what is not there.
func TestLongStrings(t *testing.T) {
	for number := range 256 {
		for _, n := range []byte{0, 1, 2, 0x0b, 0x41, 0x60, 0x7f, 0x80, 0xff} {
			for _, count := range []string{"", "ffffffff0f", "ffffffff0f ffffffff0f", "b63e ffffffff0f", "b63e b43e"} {
				b := module([]byte{byte(number)}, unhex(t, count), bytes.Repeat([]byte{n}, 7980))
				compareBytes(t, b, "a long string")
			}
		}
	}
	wide := bytes.Repeat([]byte{0xff, 0xff, 0xff, 0xff, 0x0f, 0x7f}, 1300)
	compareBytes(t, coded(append(unsigned(1300), wide...)), "very many locals")
	compareBytes(t, coded(code.Put(nil, nops(7000))), "very many instructions")
}
