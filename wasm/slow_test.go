package wasm_test

import (
	"bytes"
	"encoding/binary"
	"encoding/hex"
	"math"
	"reflect"
	"slices"
	"strings"
	"testing"

	"diapause/api"
	"diapause/code"
	"diapause/instr"
	"diapause/wasm"
)

// head is how every module begins.
const head = "0061736d01000000"

func unhex(t *testing.T, s string) []byte {
	t.Helper()
	b, err := hex.DecodeString(strings.ReplaceAll(s, " ", ""))
	if err != nil {
		t.Fatal(err)
	}
	return b
}

// unsigned and signed are the shortest encodings.
func unsigned(n int) []byte {
	return binary.AppendUvarint(nil, uint64(n))
}

func signed(n int64) []byte {
	var b []byte
	for {
		group := byte(n & 0x7f)
		n >>= 7
		if n == 0 && group&0x40 == 0 || n == -1 && group&0x40 != 0 {
			return append(b, group)
		}
		b = append(b, group|0x80)
	}
}

// in returns b with its length before it.
func in(b []byte) []byte {
	return append(unsigned(len(b)), b...)
}

// listed returns the parts with their number before them.
func listed(parts [][]byte) []byte {
	return append(unsigned(len(parts)), bytes.Join(parts, nil)...)
}

// each makes a part of each element.
func each[E any](l []E, part func(E) []byte) [][]byte {
	var parts [][]byte
	for _, x := range l {
		parts = append(parts, part(x))
	}
	return parts
}

func kindByte(kind int) []byte {
	return []byte{byte(0x80 - kind)}
}

func limits(x api.Limits) []byte {
	if x.Max == -1 {
		return append([]byte{0}, unsigned(x.Min)...)
	}
	return slices.Concat([]byte{1}, unsigned(x.Min), unsigned(x.Max))
}

func constant(kind int, n int64) []byte {
	return slices.Concat([]byte{byte(0x40 + kind)}, signed(n), []byte{0x0b})
}

// locals divides them into runs from behind.
func locals(l []int) []byte {
	var runs [][]byte
	for end := len(l); end > 0; {
		start := end - 1
		for start > 0 && l[start-1] == l[start] {
			start--
		}
		runs = append(runs, append(unsigned(end-start), kindByte(l[start])...))
		end = start
	}
	slices.Reverse(runs)
	return listed(runs)
}

// codeBytes is a code without the number of its bytes.
func codeBytes(x api.Code) []byte {
	return append(locals(x.Locals), code.Put(nil, x.Body)...)
}

// contents are those of the sections of m, by their numbers, also if m is no module.
func contents(m api.Module) map[int][][]byte {
	all := map[int][][]byte{
		1: each(m.Types, func(x api.Type) []byte {
			return slices.Concat([]byte{0x60}, listed(each(x.Params, kindByte)), listed(each(x.Results, kindByte)))
		}),
		2: each(m.Imports, func(x api.Import) []byte {
			return slices.Concat(in([]byte(x.Mod)), in([]byte(x.Name)), []byte{0}, unsigned(x.Type))
		}),
		3: each(m.Funcs, unsigned),
		6: each(m.Globals, func(x api.Global) []byte {
			mut := byte(0)
			if x.Mut {
				mut = 1
			}
			return slices.Concat(kindByte(x.Init.Kind), []byte{mut}, constant(x.Init.Kind, x.Init.N))
		}),
		7: each(m.Exports, func(x api.Export) []byte { return slices.Concat(in([]byte(x.Name)), []byte{0}, unsigned(x.Func)) }),
		9: each(m.Elems, func(x api.Elem) []byte {
			return slices.Concat([]byte{0}, constant(1, int64(x.Off)), listed(each(x.Funcs, unsigned)))
		}),
		10: each(m.Codes, func(x api.Code) []byte { return in(codeBytes(x)) }),
		11: each(m.Datas, func(x api.Data) []byte { return slices.Concat([]byte{0}, constant(1, int64(x.Off)), in(x.Bytes)) }),
	}
	if m.Table.Has {
		all[4] = [][]byte{append([]byte{0x70}, limits(m.Table)...)}
	}
	if m.Mem.Has {
		all[5] = [][]byte{limits(m.Mem)}
	}
	return all
}

// encode is Encode, the slow way, also of what is no module.
func encode(m api.Module) []byte {
	b := []byte("\x00\x61\x73\x6d\x01\x00\x00\x00")
	all := contents(m)
	for number := range 12 {
		if len(all[number]) > 0 {
			b = slices.Concat(b, []byte{byte(number)}, in(listed(all[number])))
		}
	}
	return b
}

// may is May, the slow way.
func may(m api.Module) bool {
	good := len(m.Types) <= 16 && len(m.Imports)+len(m.Funcs) <= 16 && len(m.Globals) <= 16 && len(m.Exports) <= 16
	good = good && len(m.Elems) <= 16 && len(m.Datas) <= 16 && len(m.Codes) == len(m.Funcs)
	hold := func(ok bool) { good = good && ok }
	number := func(n, low, high int) { hold(low <= n && n <= high) }
	kinds := func(l []int, most int) {
		hold(len(l) <= most)
		for _, kind := range l {
			hold(kind == 1 || kind == 2)
		}
	}
	name := func(s string) {
		number(len(s), 1, 16)
		hold(strings.Trim(s, " !\"#$%&'()*+,-./0123456789:;<=>?@ABCDEFGHIJKLMNOPQRSTUVWXYZ[\\]^_`abcdefghijklmnopqrstuvwxyz{|}~") == "")
	}
	bounds := func(x api.Limits, most int) {
		if x.Has {
			number(x.Min, 0, 16)
			number(x.Max, -1, most)
		} else {
			hold(x.Min == 0 && x.Max == 0)
		}
	}
	bounds(m.Table, 1000)
	bounds(m.Mem, 65536)
	for _, x := range m.Types {
		kinds(x.Params, 32)
		kinds(x.Results, 1)
	}
	for _, x := range m.Imports {
		name(x.Mod)
		name(x.Name)
		number(x.Type, 0, 1000)
	}
	for _, n := range m.Funcs {
		number(n, 0, 1000)
	}
	for _, x := range m.Globals {
		hold(x.Init.Kind == 2 || x.Init.Kind == 1 && int64(int32(x.Init.N)) == x.Init.N)
	}
	for _, x := range m.Exports {
		name(x.Name)
		number(x.Func, 0, 1000)
	}
	for _, x := range m.Elems {
		number(x.Off, math.MinInt32, math.MaxInt32)
		hold(len(x.Funcs) <= 50)
		for _, n := range x.Funcs {
			number(n, 0, 1000)
		}
	}
	for _, x := range m.Codes {
		kinds(x.Locals, 32)
		_, ok := code.Match(x.Body)
		hold(ok && !slices.ContainsFunc(x.Body, func(y api.Instr) bool { return !instr.May(y) }))
	}
	for _, x := range m.Datas {
		number(x.Off, math.MinInt32, math.MaxInt32)
		hold(len(x.Bytes) <= 1000)
	}
	return good && len(encode(m)) <= 8000
}

// wrong is what parser panics with.
type wrong struct{}

// parser is Decode, the slow way: it looks at each byte when it comes to it, and panics at the first that is wrong.
type parser struct{ b []byte }

func (p *parser) must(ok bool) {
	if !ok {
		panic(wrong{})
	}
}

func (p *parser) bytes(n int) []byte {
	p.must(n <= len(p.b))
	b := p.b[:n]
	p.b = p.b[n:]
	return b
}

func (p *parser) end() {
	p.must(len(p.b) == 0)
}

func (p *parser) expect(s string) {
	p.must(string(p.bytes(len(s))) == s)
}

// choice is the place among these of the byte that comes.
func (p *parser) choice(s string) int {
	at := bytes.IndexByte([]byte(s), p.bytes(1)[0])
	p.must(at >= 0)
	return at
}

func (p *parser) number() int {
	n, k := binary.Uvarint(p.b)
	p.must(k > 0 && n <= math.MaxUint32 && len(unsigned(int(n))) == k)
	p.bytes(k)
	return int(n)
}

func (p *parser) inner() *parser {
	return &parser{p.bytes(p.number())}
}

func (p *parser) list(part func()) {
	for range p.number() {
		part()
	}
}

func (p *parser) kind() int {
	return 1 + p.choice("\x7f\x7e")
}

func (p *parser) kinds() (l []int) {
	p.list(func() { l = append(l, p.kind()) })
	return l
}

func (p *parser) numbers() (l []int) {
	p.list(func() { l = append(l, p.number()) })
	return l
}

func (p *parser) limits() api.Limits {
	x := api.Limits{Has: true, Max: -1}
	withMax := p.choice("\x00\x01") == 1
	x.Min = p.number()
	if withMax {
		x.Max = p.number()
	}
	return x
}

func (p *parser) constant(kind int) int64 {
	x, k, err := instr.Get(p.b)
	p.must(err == api.OK && x.Op == 0x40+kind)
	p.bytes(k)
	p.expect("\x0b")
	return x.A
}

func (p *parser) code() (x api.Code) {
	kind := 0
	p.list(func() {
		count, next := p.number(), p.kind()
		p.must(count > 0 && len(x.Locals)+count <= 32 && next != kind)
		kind = next
		x.Locals = append(x.Locals, slices.Repeat([]int{kind}, count)...)
	})
	l, k, err := code.Get(p.b)
	p.must(err == api.OK)
	p.bytes(k)
	p.end()
	x.Body = l
	return x
}

// section goes through the section of this number, if it comes next.
func (p *parser) section(number byte, part func(*parser)) {
	if len(p.b) == 0 || p.b[0] != number {
		return
	}
	p.bytes(1)
	q := p.inner()
	p.must(len(q.b) > 0 && q.b[0] > 0)
	q.list(func() { part(q) })
	q.end()
}

func (p *parser) module() (m api.Module) {
	p.expect("\x00asm\x01\x00\x00\x00")
	p.section(1, func(q *parser) {
		q.expect("\x60")
		params := q.kinds()
		m.Types = append(m.Types, api.Type{Params: params, Results: q.kinds()})
	})
	p.section(2, func(q *parser) {
		mod, name := string(q.inner().b), string(q.inner().b)
		q.expect("\x00")
		m.Imports = append(m.Imports, api.Import{Mod: mod, Name: name, Type: q.number()})
	})
	p.section(3, func(q *parser) { m.Funcs = append(m.Funcs, q.number()) })
	p.section(4, func(q *parser) {
		q.must(!m.Table.Has)
		q.expect("\x70")
		m.Table = q.limits()
	})
	p.section(5, func(q *parser) {
		q.must(!m.Mem.Has)
		m.Mem = q.limits()
	})
	p.section(6, func(q *parser) {
		kind := q.kind()
		mut := q.choice("\x00\x01") == 1
		m.Globals = append(m.Globals, api.Global{Mut: mut, Init: api.Val{Kind: kind, N: q.constant(kind)}})
	})
	p.section(7, func(q *parser) {
		name := string(q.inner().b)
		q.expect("\x00")
		m.Exports = append(m.Exports, api.Export{Name: name, Func: q.number()})
	})
	p.section(9, func(q *parser) {
		q.expect("\x00")
		off := int(q.constant(1))
		m.Elems = append(m.Elems, api.Elem{Off: off, Funcs: q.numbers()})
	})
	p.section(10, func(q *parser) { m.Codes = append(m.Codes, q.inner().code()) })
	p.section(11, func(q *parser) {
		q.expect("\x00")
		off := int(q.constant(1))
		m.Datas = append(m.Datas, api.Data{Off: off, Bytes: bytes.Clone(q.inner().b)})
	})
	p.end()
	p.must(may(m))
	return m
}

// decode is Decode, the slow way.
func decode(b []byte) (m api.Module, err api.Errno) {
	if len(b) > 8000 {
		return api.Module{}, api.ErrLimit
	}
	defer func() {
		if x := recover(); x != nil {
			if _, ok := x.(wrong); !ok {
				panic(x)
			}
			m, err = api.Module{}, api.ErrForm
		}
	}()
	p := &parser{b}
	return p.module(), api.OK
}

// copied copies l, with what is spare behind it if whole is true; of a list without elements it makes nil.
func copied[E any](l []E, whole bool, part func(E) E) []E {
	if whole {
		l = l[:cap(l)]
	}
	var out []E
	for _, x := range l {
		out = append(out, part(x))
	}
	return out
}

func asIs[E any](x E) E { return x }

// copyOf copies m and all its lists.
func copyOf(m api.Module, whole bool) api.Module {
	m.Types = copied(m.Types, whole, func(x api.Type) api.Type {
		return api.Type{Params: copied(x.Params, whole, asIs), Results: copied(x.Results, whole, asIs)}
	})
	m.Imports = copied(m.Imports, whole, asIs)
	m.Funcs = copied(m.Funcs, whole, asIs)
	m.Globals = copied(m.Globals, whole, asIs)
	m.Exports = copied(m.Exports, whole, asIs)
	m.Elems = copied(m.Elems, whole, func(x api.Elem) api.Elem { return api.Elem{Off: x.Off, Funcs: copied(x.Funcs, whole, asIs)} })
	m.Codes = copied(m.Codes, whole, func(x api.Code) api.Code {
		return api.Code{Locals: copied(x.Locals, whole, asIs), Body: copied(x.Body, whole, func(y api.Instr) api.Instr {
			y.L = copied(y.L, whole, asIs)
			return y
		})}
	})
	m.Datas = copied(m.Datas, whole, func(x api.Data) api.Data { return api.Data{Off: x.Off, Bytes: copied(x.Bytes, whole, asIs)} })
	return m
}

// same is Eq, the slow way.
func same(a, b api.Module) bool {
	return reflect.DeepEqual(copyOf(a, false), copyOf(b, false))
}

// compareModule holds May, Encode, and Decode of the encoding, against the slow way.
func compareModule(t *testing.T, m api.Module, about string) {
	t.Helper()
	want, text := may(m), encode(m)
	if got := wasm.May(m); got != want {
		t.Errorf("P7.1: May, %s: got %t, want %t", about, got, want)
	}
	got := wasm.Encode(m)
	if want && !bytes.Equal(got, text) {
		t.Errorf("P7.1: Encode, %s: got %.200x, want %.200x", about, got, text)
	}
	if !want && got != nil {
		t.Errorf("P7.1: Encode of no module, %s: got %.200x", about, got)
	}
	compareBytes(t, text, about)
	if x, err := wasm.Decode(text); want && (!same(x, m) || !wasm.Eq(x, m) || err != api.OK) {
		t.Errorf("P7.1: Decode of the encoding, %s: got %v, %d", about, x, err)
	}
}

// compareBytes holds Decode against the slow way.
func compareBytes(t *testing.T, b []byte, about string) {
	t.Helper()
	m, err := wasm.Decode(b)
	if want, wantErr := decode(b); !same(m, want) || err != wantErr {
		t.Errorf("P7.1: Decode %.200x (%d bytes), %s: got %v, %d; want %v, %d", b, len(b), about, m, err, want, wantErr)
	}
	if err != api.OK && !reflect.DeepEqual(m, api.Module{}) {
		t.Errorf("P0.2: Decode %.200x, %s: got %v beside the error %d", b, about, m, err)
	}
}

// full has all ten sections, with two elements wherever there can be two.
func full() api.Module {
	return api.Module{
		Types:   []api.Type{{}, {Params: []int{2, 1}, Results: []int{2}}},
		Imports: []api.Import{{Mod: "w", Name: "ask", Type: 1}, {Mod: "~ ", Name: "b", Type: 1000}},
		Funcs:   []int{0, 300},
		Table:   api.Limits{Has: true, Min: 4, Max: -1},
		Mem:     api.Limits{Has: true, Min: 1, Max: 300},
		Globals: []api.Global{{Mut: true, Init: api.Val{Kind: api.I32, N: 64}}, {Init: api.Val{Kind: api.I64, N: math.MinInt64}}},
		Exports: []api.Export{{Name: "f", Func: 2}, {Name: "go on", Func: 128}},
		Elems:   []api.Elem{{Off: -65, Funcs: []int{0, 200}}, {Off: 7}},
		Codes: []api.Code{
			{Locals: []int{1, 1, 2, 1}, Body: []api.Instr{{Op: 0x41, A: 5}, {Op: 0x04, A: api.I32}, {Op: 0x01}, {Op: 0x05}, {Op: 0x0e, A: 3, L: []int{0, 1000}}, {Op: 0x0b}, {Op: 0x1a}}},
			{},
		},
		Datas: []api.Data{{Off: 3, Bytes: []byte("ab\x0b")}, {Off: 300}},
	}
}

// alone are modules of one section each; those of Funcs and of Codes are only there together.
func alone() map[string]api.Module {
	m := full()
	return map[string]api.Module{
		"Types":   {Types: m.Types},
		"Imports": {Imports: m.Imports},
		"Funcs":   {Funcs: m.Funcs, Codes: m.Codes},
		"Table":   {Table: m.Table},
		"Mem":     {Mem: m.Mem},
		"Globals": {Globals: m.Globals},
		"Exports": {Exports: m.Exports},
		"Elems":   {Elems: m.Elems},
		"Datas":   {Datas: m.Datas},
	}
}

// long is a module whose encoding has so many bytes, some 6,200 at least.
func long(size int) api.Module {
	m := full()
	for range 6 {
		m.Datas = append(m.Datas, api.Data{Bytes: bytes.Repeat([]byte{0x0b}, 1000)})
	}
	m.Datas = append(m.Datas, api.Data{Bytes: make([]byte, 128)}, api.Data{Bytes: make([]byte, 128)})
	for k := range 2 {
		last := &m.Datas[len(m.Datas)-1-k]
		last.Bytes = make([]byte, 128+min(max(0, size-len(encode(m))), 872))
	}
	return m
}

// greatest has as much of everything, one by one, as a module may have, but for its encoding.
func greatest() api.Module {
	name := strings.Repeat("~", 16)
	return api.Module{
		Types:   slices.Repeat([]api.Type{{Params: slices.Repeat([]int{2, 1}, 16), Results: []int{1}}}, 16),
		Imports: slices.Repeat([]api.Import{{Mod: name, Name: name, Type: 1000}}, 15),
		Funcs:   []int{1000},
		Table:   api.Limits{Has: true, Min: 16, Max: 1000},
		Mem:     api.Limits{Has: true, Min: 16, Max: 65536},
		Globals: slices.Repeat([]api.Global{{Mut: true, Init: api.Val{Kind: api.I64, N: math.MinInt64}}}, 16),
		Exports: slices.Repeat([]api.Export{{Name: name, Func: 1000}}, 16),
		Elems:   slices.Repeat([]api.Elem{{Off: math.MinInt32, Funcs: slices.Repeat([]int{1000}, 50)}}, 16),
		Codes:   []api.Code{{Locals: slices.Repeat([]int{1, 2}, 16), Body: slices.Repeat([]api.Instr{{Op: 0x41, A: math.MaxInt32}}, 300)}},
		Datas:   append(slices.Repeat([]api.Data{{Off: math.MaxInt32}}, 15), api.Data{Bytes: make([]byte, 1000)}),
	}
}
