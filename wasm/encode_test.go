package wasm_test

import (
	"bytes"
	"math"
	"slices"
	"strings"
	"testing"

	"diapause/api"
	"diapause/wasm"
)

// onlyCode is a module of one function that has this code.
func onlyCode(locals []int, body ...api.Instr) api.Module {
	return api.Module{Funcs: []int{0}, Codes: []api.Code{{Locals: locals, Body: body}}}
}

// onlyGlobal is a module of one global.
func onlyGlobal(mut bool, kind int, n int64) api.Module {
	return api.Module{Globals: []api.Global{{Mut: mut, Init: api.Val{Kind: kind, N: n}}}}
}

// known are encodings written out by hand.
func known() []struct {
	m    api.Module
	want string
} {
	i32 := slices.Repeat([]int{api.I32}, 32)
	return []struct {
		m    api.Module
		want string
	}{
		{api.Module{}, ""},
		{api.Module{Types: []api.Type{{Params: []int{1, 2}, Results: []int{1}}}}, "01 07 01 60 02 7f 7e 01 7f"},
		{api.Module{Types: []api.Type{{}, {Results: []int{2}}}}, "01 08 02 600000 6000017e"},
		{api.Module{Types: []api.Type{{Params: i32}}}, "01 24 01 60 20" + strings.Repeat("7f", 32) + "00"},
		{api.Module{Types: make([]api.Type, 16)}, "01 31 10" + strings.Repeat("600000", 16)},
		{api.Module{Imports: []api.Import{{Mod: "a", Name: "bc", Type: 3}}}, "02 08 01 0161 026263 00 03"},
		{api.Module{Imports: []api.Import{{Mod: " ~", Name: "0123456789abcdef", Type: 1000}}}, "02 18 01 02207e 1030313233343536373839616263646566 00 e807"},
		{api.Module{Funcs: []int{0}, Codes: []api.Code{{}}}, "03 02 01 00 0a 04 01 02 00 0b"},
		{api.Module{Funcs: []int{127, 128}, Codes: make([]api.Code, 2)}, "03 04 02 7f 8001 0a 07 02 02000b 02000b"},
		{api.Module{Table: api.Limits{Has: true, Min: 1, Max: -1}}, "04 04 01 70 00 01"},
		{api.Module{Table: api.Limits{Has: true}}, "04 05 01 70 01 00 00"},
		{api.Module{Table: api.Limits{Has: true, Min: 16, Max: 1000}}, "04 06 01 70 01 10 e807"},
		{api.Module{Mem: api.Limits{Has: true, Max: -1}}, "05 03 01 00 00"},
		{api.Module{Mem: api.Limits{Has: true, Max: 300}}, "05 05 01 01 00 ac02"},
		{api.Module{Mem: api.Limits{Has: true, Min: 16, Max: 65536}}, "05 06 01 01 10 808004"},
		{onlyGlobal(false, api.I32, 0), "06 06 01 7f 00 41 00 0b"},
		{onlyGlobal(true, api.I64, -1), "06 06 01 7e 01 42 7f 0b"},
		{onlyGlobal(false, api.I32, math.MinInt32), "06 0a 01 7f 00 41 8080808078 0b"},
		{onlyGlobal(true, api.I32, math.MaxInt32), "06 0a 01 7f 01 41 ffffffff07 0b"},
		{onlyGlobal(false, api.I64, math.MaxInt64), "06 0f 01 7e 00 42 ffffffffffffffffff00 0b"},
		{onlyGlobal(false, api.I64, math.MinInt64), "06 0f 01 7e 00 42 8080808080808080807f 0b"},
		{api.Module{Exports: []api.Export{{Name: "x", Func: 2}}}, "07 05 01 0178 00 02"},
		{api.Module{Exports: []api.Export{{Name: "x", Func: 1000}, {Name: "yz"}}}, "07 0b 02 0178 00 e807 02797a 00 00"},
		{api.Module{Elems: []api.Elem{{Off: 2, Funcs: []int{5}}}}, "09 07 01 00 41 02 0b 01 05"},
		{api.Module{Elems: []api.Elem{{Off: -65}, {Off: 64, Funcs: []int{0, 1000}}}}, "09 10 02 00 41bf7f0b 00 00 41c0000b 02 00 e807"},
		{onlyCode([]int{1, 1, 2}, api.Instr{Op: 0x41, A: 5}, api.Instr{Op: 0x1a}), "03 02 01 00 0a 0b 01 09 02 027f 017e 41 05 1a 0b"},
		{onlyCode([]int{1}), "03 02 01 00 0a 06 01 04 01 017f 0b"},
		{onlyCode([]int{2, 1}), "03 02 01 00 0a 08 01 06 02 017e 017f 0b"},
		{onlyCode([]int{2, 1, 2}), "03 02 01 00 0a 0a 01 08 03 017e 017f 017e 0b"},
		{onlyCode([]int{1, 1, 2, 2, 2, 1}), "03 02 01 00 0a 0a 01 08 03 027f 037e 017f 0b"},
		{onlyCode(i32), "03 02 01 00 0a 06 01 04 01 207f 0b"},
		{onlyCode(slices.Repeat([]int{2, 1}, 16)), "03 02 01 00 0a 44 01 42 20" + strings.Repeat("017e017f", 16) + "0b"},
		{onlyCode(nil, nops(300)...), "03 02 01 00 0a b102 01 ae02 00" + strings.Repeat("01", 300) + "0b"},
		{onlyCode(nil, api.Instr{Op: 0x04, A: 1}, api.Instr{Op: 0x05}, api.Instr{Op: 0x0b}), "03 02 01 00 0a 08 01 06 00 047f 05 0b 0b"},
		{api.Module{Datas: []api.Data{{Off: -1, Bytes: []byte("hi")}}}, "0b 08 01 00 417f0b 026869"},
		{api.Module{Datas: []api.Data{{Off: math.MaxInt32}, {Bytes: make([]byte, 128)}}}, "0b 9001 02 00 41ffffffff070b 00 00 41000b 8001" + strings.Repeat("00", 128)},
		{api.Module{Table: api.Limits{Has: true, Min: 1, Max: -1}, Mem: api.Limits{Has: true, Max: 300}}, "04 04 01 70 00 01 05 05 01 01 00 ac02"},
	}
}

func TestKnownEncodings(t *testing.T) {
	for _, c := range known() {
		want := unhex(t, head+c.want)
		if got := wasm.Encode(c.m); !bytes.Equal(got, want) || !wasm.May(c.m) {
			t.Errorf("P7.1: Encode %v: got %x, want %x", c.m, got, want)
		}
		if m, err := wasm.Decode(want); !same(m, c.m) || !wasm.Eq(m, c.m) || err != api.OK {
			t.Errorf("P7.1: Decode %x: got %v, %d", want, m, err)
		}
		compareModule(t, c.m, "by hand")
	}
}

// TestEncodeOfAll holds the ten sections together, in their order.
func TestEncodeOfAll(t *testing.T) {
	want := unhex(t, head+
		"01 0a 02 60 00 00 60 02 7e 7f 01 7e"+
		"02 11 02 0177 0361736b 00 01 027e20 0162 00 e807"+
		"03 04 02 00 ac02"+
		"04 04 01 70 00 04"+
		"05 05 01 01 01 ac02"+
		"06 15 02 7f 01 41c000 0b 7e 00 428080808080808080807f 0b"+
		"07 0e 02 0166 00 02 05676f206f6e 00 8001"+
		"09 0f 02 00 41bf7f0b 02 00 c801 00 41070b 00"+
		"0a 1b 02 16 03 027f 017e 017f 4105 047f 01 05 0e0200e80703 0b 1a 0b 02 00 0b"+
		"0b 0f 02 00 41030b 0361620b 00 41ac020b 00")
	if got := wasm.Encode(full()); !bytes.Equal(got, want) {
		t.Errorf("P7.1: Encode of all sections: got %x, want %x", got, want)
	}
	if m, err := wasm.Decode(want); !same(m, full()) || err != api.OK {
		t.Errorf("P7.1: Decode of all sections: got %v, %d", m, err)
	}
}

// TestEncodeOfNoModule holds that there is no encoding of what May refuses, not even an empty one.
func TestEncodeOfNoModule(t *testing.T) {
	for k, m := range []api.Module{
		{Types: make([]api.Type, 17)},
		{Types: []api.Type{{Results: []int{1, 1}}}},
		{Types: []api.Type{{Params: []int{0}}}},
		{Imports: []api.Import{{Mod: "a"}}},
		{Imports: []api.Import{{Name: "a"}}},
		{Imports: []api.Import{{Mod: "a", Name: "b", Type: -1}}},
		{Funcs: []int{0}},
		{Codes: []api.Code{{}}},
		{Funcs: []int{1001}, Codes: []api.Code{{}}},
		{Table: api.Limits{Min: 1}},
		{Table: api.Limits{Has: true, Min: 17}},
		{Mem: api.Limits{Max: -1}},
		{Mem: api.Limits{Has: true, Max: 65537}},
		{Globals: []api.Global{{}}},
		onlyGlobal(true, api.I32, 1<<31),
		{Exports: []api.Export{{}}},
		{Elems: []api.Elem{{Off: 1 << 31}}},
		{Elems: []api.Elem{{Funcs: make([]int, 51)}}},
		onlyCode([]int{3}),
		onlyCode(nil, api.Instr{Op: 0x0b}),
		onlyCode(nil, api.Instr{Op: 0x06}),
		{Datas: []api.Data{{Off: -1<<31 - 1}}},
		{Datas: []api.Data{{Bytes: make([]byte, 1001)}}},
		{Datas: slices.Repeat([]api.Data{{Bytes: make([]byte, 1000)}}, 8)},
	} {
		if got := wasm.Encode(m); got != nil || wasm.May(m) {
			t.Errorf("P7.1: Encode of what is no module, %d: got %.60x", k, got)
		}
		compareModule(t, m, "no module")
	}
}

// TestRuns holds the runs of Locals: all lists of up to ten, which are as many as have every division into runs.
func TestRuns(t *testing.T) {
	for k := range 11 {
		for bits := range 1 << k {
			l := make([]int, k)
			for i := range l {
				l[i] = 1 + bits>>i&1
			}
			compareModule(t, onlyCode(l), "Locals")
		}
	}
}
