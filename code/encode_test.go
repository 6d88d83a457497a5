package code_test

import (
	"bytes"
	"encoding/binary"
	"math"
	"slices"
	"strings"
	"testing"

	"windrow/api"
	"windrow/code"
)

// encode: the bytes by the chapter's words, or its first error.
func encode(p api.Program) (b []byte, e api.Errno) {
	defer func() {
		if caught := recover(); caught != nil {
			b, e = nil, caught.(api.Errno)
		}
	}()
	b = append(b, "WDR1"...)
	count := func(n, most int) {
		if n > most {
			panic(api.ErrBig)
		}
		b = binary.AppendUvarint(b, uint64(n))
	}
	kind := func(n int) {
		if n < 0 || n > 2 {
			panic(api.ErrType)
		}
		b = append(b, byte(n))
	}
	name := func(s string) {
		count(len(s), 16)
		b = append(b, s...)
	}
	kinds := func(l []int, most int) {
		count(len(l), most)
		for _, n := range l {
			kind(n)
		}
	}
	count(len(p.Classes), 16)
	for _, c := range p.Classes {
		name(c.Name)
		count(len(c.Fields), 15)
		for _, f := range c.Fields {
			name(f.Name)
			kind(f.Type)
		}
	}
	count(len(p.Funcs), 16)
	for _, f := range p.Funcs {
		name(f.Name)
		kinds(f.Params, 6)
		kind(f.Result)
		kinds(f.Locals, 16)
		count(len(f.Code), 256)
		for _, i := range f.Code {
			if !right(i) {
				panic(api.ErrOp)
			}
			b = append(b, byte(i.Op))
			if i.Op == 1 {
				b = binary.AppendVarint(b, i.A)
				continue
			}
			for _, n := range []int64{i.A, i.B}[:instructions()[i.Op-1].operands] {
				b = binary.AppendUvarint(b, uint64(n))
			}
		}
	}
	return b, api.OK
}

// checkEncode holds Encode against the chapter's words, and Decode against Encode.
func checkEncode(t *testing.T, p api.Program) api.Errno {
	t.Helper()
	want, wantE := encode(p)
	b, e := code.Encode(p)
	if !bytes.Equal(b, want) || e != wantE {
		t.Fatalf("Encode(%+v) = %x, %d, not %x, %d", p, b, e, want, wantE)
	}
	if e == api.OK {
		back, at, e := code.Decode(b)
		if !code.Equal(back, p) || at != 0 || e != api.OK {
			t.Fatalf("Decode(%x) = %+v, %d, %d, not %+v", b, back, at, e, p)
		}
	}
	return e
}

// P13.1: the chapter's examples, and the sample.
func TestEncodeExamples(t *testing.T) {
	if b, e := code.Encode(api.Program{}); !bytes.Equal(b, []byte{0x57, 0x44, 0x52, 0x31, 0, 0}) || e != api.OK {
		t.Errorf("%x, %d", b, e)
	}
	b, e := code.Encode(sample())
	if !bytes.Equal(b, sampleBytes()) || e != api.OK {
		t.Errorf("%x, %d, not %x", b, e, sampleBytes())
	}
	one := func(i api.Ins) []byte {
		b, e := code.Encode(api.Program{Funcs: []api.Func{{Code: []api.Ins{i}}}})
		if e != api.OK {
			t.Errorf("%+v: %d", i, e)
			return nil
		}
		return b[11:]
	}
	known := []struct {
		i api.Ins
		b []byte
	}{
		{api.Ins{Op: 1, A: -1}, []byte{1, 1}},
		{api.Ins{Op: 25, A: 1, B: 300}, []byte{0x19, 1, 0xAC, 2}},
		{api.Ins{Op: 1}, []byte{1, 0}},
		{api.Ins{Op: 1, A: 1}, []byte{1, 2}},
		{api.Ins{Op: 1, A: -2}, []byte{1, 3}},
		{api.Ins{Op: 1, A: 63}, []byte{1, 126}},
		{api.Ins{Op: 1, A: -64}, []byte{1, 127}},
		{api.Ins{Op: 1, A: 64}, []byte{1, 0x80, 1}},
		{api.Ins{Op: 1, A: -65}, []byte{1, 0x81, 1}},
		{api.Ins{Op: 1, A: math.MaxInt64}, []byte{1, 0xFE, 0xFF, 0xFF, 0xFF, 0xFF, 0xFF, 0xFF, 0xFF, 0xFF, 1}},
		{api.Ins{Op: 1, A: math.MinInt64}, []byte{1, 0xFF, 0xFF, 0xFF, 0xFF, 0xFF, 0xFF, 0xFF, 0xFF, 0xFF, 1}},
		{api.Ins{Op: 3, A: 127}, []byte{3, 127}},
		{api.Ins{Op: 3, A: 128}, []byte{3, 0x80, 1}},
		{api.Ins{Op: 4, A: 16383}, []byte{4, 0xFF, 127}},
		{api.Ins{Op: 4, A: 16384}, []byte{4, 0x80, 0x80, 1}},
		{api.Ins{Op: 27, A: mostOperand}, []byte{27, 0xFF, 0xFF, 0xFF, 0xFF, 7, 0}},
		{api.Ins{Op: 38}, []byte{38}},
	}
	for _, k := range known {
		if got := one(k.i); !bytes.Equal(got, k.b) {
			t.Errorf("%+v: %x, not %x", k.i, got, k.b)
		}
	}
}

// P13.1 and P13.2: all instructions with all kinds of operands, right and not.
func TestEncodeInstructions(t *testing.T) {
	ops := noOps()
	for _, i := range instructions() {
		ops = append(ops, i.number)
	}
	for _, op := range ops {
		for _, a := range operandValues() {
			for _, b := range operandValues() {
				checkEncode(t, api.Program{Funcs: []api.Func{{Code: []api.Ins{{Op: op, A: a, B: b}}}}})
			}
		}
	}
}

// P13.1: each count at its limit and one above it, also where something behind it is wrong.
func TestEncodeLimits(t *testing.T) {
	wrongCode := []api.Ins{{Op: 77}}
	known := []struct {
		name string
		most int
		p    func(n int) api.Program
	}{
		{"classes", 16, func(n int) api.Program { return api.Program{Classes: make([]api.Class, n)} }},
		{"functions", 16, func(n int) api.Program { return api.Program{Funcs: make([]api.Func, n)} }},
		{"fields", 15, func(n int) api.Program { return api.Program{Classes: []api.Class{{}, {Fields: make([]api.Field, n)}}} }},
		{"parameters", 6, func(n int) api.Program { return api.Program{Funcs: []api.Func{{}, {Params: make([]int, n)}}} }},
		{"other locals", 16, func(n int) api.Program { return api.Program{Funcs: []api.Func{{Locals: make([]int, n)}}} }},
		{"instructions", 256, func(n int) api.Program {
			return api.Program{Funcs: []api.Func{{Code: slices.Repeat([]api.Ins{{Op: code.Poll}}, n)}}}
		}},
		{"bytes of a class's name", 16, func(n int) api.Program {
			return api.Program{Classes: []api.Class{{Name: strings.Repeat("é", n/2) + strings.Repeat("a", n%2)}}}
		}},
		{"bytes of a field's name", 16, func(n int) api.Program {
			return api.Program{Classes: []api.Class{{Fields: []api.Field{{}, {Name: strings.Repeat("\x00", n)}}}}}
		}},
		{"bytes of a function's name", 16, func(n int) api.Program { return api.Program{Funcs: []api.Func{{Name: strings.Repeat("\xff", n)}}} }},
	}
	for _, k := range known {
		for _, n := range []int{0, 1, k.most - 1, k.most, k.most + 1, k.most + 2, 2 * k.most, 128, 256, 257, 65536, 65537} {
			want := api.OK
			if n > k.most {
				want = api.ErrBig
			}
			if e := checkEncode(t, k.p(n)); e != want {
				t.Errorf("%d %s: %d", n, k.name, e)
			}
			// What comes behind is wrong, too.
			p := k.p(n)
			p.Funcs = append(p.Funcs, api.Func{Code: wrongCode})
			if e := checkEncode(t, p); n > k.most && e != api.ErrBig || n < k.most && e != api.ErrOp {
				t.Errorf("%d %s ahead of a wrong instruction: %d", n, k.name, e)
			}
		}
	}
}

// P13.1: the first wrong thing in the order of the bytes.
func TestEncodeOrder(t *testing.T) {
	long := strings.Repeat("n", 17)
	known := []struct {
		name string
		p    api.Program
		e    api.Errno
	}{
		{"too many classes, the first wrong", api.Program{Classes: slices.Repeat([]api.Class{{Fields: []api.Field{{Type: 3}}}}, 17)}, api.ErrBig},
		{"a class's name ahead of a field's type", api.Program{Classes: []api.Class{{Name: long, Fields: []api.Field{{Type: 3}}}}}, api.ErrBig},
		{"a field's name ahead of its type", api.Program{Classes: []api.Class{{Fields: []api.Field{{Name: long, Type: 3}}}}}, api.ErrBig},
		{"a field's type ahead of the next one's name", api.Program{Classes: []api.Class{{Fields: []api.Field{{Type: 3}, {Name: long}}}}}, api.ErrType},
		{"too many fields ahead of their types", api.Program{Classes: []api.Class{{Fields: slices.Repeat([]api.Field{{Type: 3}}, 16)}}}, api.ErrBig},
		{"a class ahead of too many functions", api.Program{Classes: []api.Class{{Fields: []api.Field{{Type: -1}}}}, Funcs: make([]api.Func, 17)}, api.ErrType},
		{"a parameter's type ahead of too many other locals", api.Program{Funcs: []api.Func{{Params: []int{3}, Locals: make([]int, 17)}}}, api.ErrType},
		{"a result's type ahead of too many other locals", api.Program{Funcs: []api.Func{{Result: 3, Locals: make([]int, 17)}}}, api.ErrType},
		{"too many parameters ahead of the result", api.Program{Funcs: []api.Func{{Params: make([]int, 7), Result: 3}}}, api.ErrBig},
		{"too many other locals ahead of their types", api.Program{Funcs: []api.Func{{Locals: slices.Repeat([]int{9}, 17)}}}, api.ErrBig},
		{"a local's type ahead of too many instructions", api.Program{Funcs: []api.Func{{Locals: []int{9}, Code: make([]api.Ins, 257)}}}, api.ErrType},
		{"too many instructions ahead of wrong ones", api.Program{Funcs: []api.Func{{Code: make([]api.Ins, 257)}}}, api.ErrBig},
		{"an instruction ahead of the next function", api.Program{Funcs: []api.Func{{Code: make([]api.Ins, 256)}, {Name: long}}}, api.ErrOp},
		{"a type that is one within eight bits", api.Program{Funcs: []api.Func{{Result: 257}}}, api.ErrType},
		{"an instruction that is one within eight bits", api.Program{Funcs: []api.Func{{Code: []api.Ins{{Op: 256 + code.Poll}}}}}, api.ErrOp},
		{"an operand that there isn't", api.Program{Funcs: []api.Func{{Code: []api.Ins{{Op: code.Poll, A: 1}}}}}, api.ErrOp},
	}
	for _, k := range known {
		if e := checkEncode(t, k.p); e != k.e {
			t.Errorf("%s: %d, not %d", k.name, e, k.e)
		}
	}
}

// P13.1 and P13.2: many programs, and the one with the most bytes.
func TestEncodeMany(t *testing.T) {
	random := seed(88172645463325252)
	seen := map[api.Errno]int{}
	for k := range 3000 {
		seen[checkEncode(t, random.program(k%2*20))]++
	}
	for _, e := range []api.Errno{api.OK, api.ErrBig, api.ErrType, api.ErrOp} {
		if seen[e] < 50 {
			t.Error("error", e, "was hardly tried:", seen[e])
		}
	}
	if e := checkEncode(t, greatest()); e != api.OK {
		t.Error("the greatest program", e)
	}
	checkEncode(t, wrongProgram())
}

// P13.3 and Rule 4: the calls leave their arguments as they are, also behind the ends, and answer new memory.
func TestEncodeMemory(t *testing.T) {
	for _, p := range append(changed(), wrongProgram()) {
		given := roomy(p)
		one, e := code.Encode(given)
		if !code.Equal(given, p) || !spareIsZero(given) {
			t.Fatalf("Encode changed %+v to %+v", p, given)
		}
		two, _ := code.Encode(given)
		for i := range one[:cap(one)] {
			one[:cap(one)][i] = 0xEE
		}
		want, _ := encode(p)
		if e == api.OK && !bytes.Equal(two, want) {
			t.Fatalf("two answers share memory: %x", two)
		}
		code.Copy(given)
		code.Equal(given, given)
		if !code.Equal(given, p) || !spareIsZero(given) {
			t.Fatalf("Copy or Equal changed %+v to %+v", p, given)
		}
	}
}

// roomy: the same program in lists with spare capacity.
func roomy(p api.Program) api.Program {
	own := api.Program{Classes: append(make([]api.Class, 0, len(p.Classes)+3), p.Classes...), Funcs: append(make([]api.Func, 0, len(p.Funcs)+3), p.Funcs...)}
	for i, c := range own.Classes {
		own.Classes[i].Fields = append(make([]api.Field, 0, len(c.Fields)+3), c.Fields...)
	}
	for i, f := range own.Funcs {
		own.Funcs[i].Params = append(make([]int, 0, len(f.Params)+3), f.Params...)
		own.Funcs[i].Locals = append(make([]int, 0, len(f.Locals)+3), f.Locals...)
		own.Funcs[i].Code = append(make([]api.Ins, 0, len(f.Code)+3), f.Code...)
	}
	return own
}

// spareIsZero: has nothing been written behind the ends of a program's lists?
func spareIsZero(p api.Program) bool {
	zero := true
	for _, c := range p.Classes[len(p.Classes):cap(p.Classes)] {
		zero = zero && c.Name == "" && c.Fields == nil
	}
	for _, f := range p.Funcs[len(p.Funcs):cap(p.Funcs)] {
		zero = zero && f.Name == "" && f.Params == nil && f.Result == 0 && f.Locals == nil && f.Code == nil
	}
	for _, c := range p.Classes {
		zero = zero && isZero(c.Fields)
	}
	for _, f := range p.Funcs {
		zero = zero && isZero(f.Params) && isZero(f.Locals) && isZero(f.Code)
	}
	return zero
}

func isZero[T comparable](l []T) bool {
	var none T
	for _, x := range l[len(l):cap(l)] {
		if x != none {
			return false
		}
	}
	return true
}
