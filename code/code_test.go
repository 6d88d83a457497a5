package code_test

import (
	"math"
	"slices"
	"strconv"
	"strings"
	"testing"

	"windrow/api"
	"windrow/code"
)

// instruction is a row of the chapter's list.
type instruction struct {
	number   int
	constant int
	name     string
	operands int
}

func instructions() []instruction {
	return []instruction{
		{1, code.Const, "const", 1}, {2, code.Null, "null", 0}, {3, code.Load, "load", 1}, {4, code.Store, "store", 1},
		{5, code.Dup, "dup", 0}, {6, code.Drop, "drop", 0}, {7, code.Swap, "swap", 0}, {8, code.Add, "add", 0},
		{9, code.Sub, "sub", 0}, {10, code.Mul, "mul", 0}, {11, code.Div, "div", 0}, {12, code.Rem, "rem", 0},
		{13, code.Neg, "neg", 0}, {14, code.Eq, "eq", 0}, {15, code.Less, "less", 0}, {16, code.Same, "same", 0},
		{17, code.IsNull, "isnull", 0}, {18, code.Jump, "jump", 1}, {19, code.JumpIf, "jumpif", 1}, {20, code.Call, "call", 1},
		{21, code.Return, "return", 0}, {22, code.New, "new", 1}, {23, code.NewInts, "newints", 0}, {24, code.NewRefs, "newrefs", 0},
		{25, code.Get, "get", 2}, {26, code.Put, "put", 2}, {27, code.Cas, "cas", 2}, {28, code.Len, "len", 0},
		{29, code.IntAt, "intat", 0}, {30, code.SetInt, "setint", 0}, {31, code.RefAt, "refat", 0}, {32, code.SetRef, "setref", 0},
		{33, code.Global, "global", 1}, {34, code.SetGlobal, "setglobal", 1}, {35, code.Spawn, "spawn", 1}, {36, code.Join, "join", 0},
		{37, code.Out, "out", 0}, {38, code.Poll, "poll", 0}, {39, code.Collect, "collect", 0},
	}
}

// noOps: numbers that no instruction has, some of them the same as one within some bits.
func noOps() []int {
	l := []int{math.MinInt, math.MinInt + 1, -1 << 32, -256, -39, -2, -1, 0, 127, 128, 255, 256, 257, 256 + 38, 1 << 16, 1<<16 + 25, 1 << 32, 1<<32 + 1, 1<<32 + 38, math.MaxInt - 1, math.MaxInt}
	for op := 40; op < 100; op++ {
		l = append(l, op)
	}
	return l
}

// P13.1: each instruction's number, name and number of operands.
func TestInstructions(t *testing.T) {
	for _, i := range instructions() {
		if i.constant != i.number {
			t.Errorf("%s is %d, not %d", i.name, i.constant, i.number)
		}
		if code.Name(i.number) != i.name || code.Find(i.name) != i.number || code.Operands(i.number) != i.operands {
			t.Errorf("%d: Name %q, Find %d, Operands %d", i.number, code.Name(i.number), code.Find(i.name), code.Operands(i.number))
		}
	}
	if len(instructions()) != code.Ops || code.Ops != 39 || code.Magic != "WDR1" {
		t.Error("Ops, Magic", code.Ops, code.Magic)
	}
	for _, op := range noOps() {
		if code.Name(op) != "" || code.Operands(op) != -1 {
			t.Errorf("%d: Name %q, Operands %d", op, code.Name(op), code.Operands(op))
		}
	}
	for _, s := range []string{"", " ", "Const", "CONST", "const ", " const", "cons", "consts", "add\x00", "isNull", "is_null", "nop", "end", "func", "1", strings.Repeat("a", 1<<16)} {
		if code.Find(s) != 0 {
			t.Errorf("Find(%q) = %d", s, code.Find(s))
		}
	}
}

const mostOperand = 1<<31 - 1

// operandValues: such as are right, such as are not, and what lies beside.
func operandValues() []int64 {
	return []int64{
		math.MinInt64, math.MinInt64 + 1, -1 << 33, -1 << 32, -1<<31 - 1, -1 << 31, -128, -2, -1, 0, 1, 2, 63, 64, 127, 128, 255, 300, 16383, 16384,
		mostOperand - 1, mostOperand, mostOperand + 1, 1<<32 - 1, 1 << 32, 1<<32 + 1, 1 << 62, math.MaxInt64 - 1, math.MaxInt64,
	}
}

func inRange(n int64) bool { return 0 <= n && n <= mostOperand }

// right: as the chapter says it.
func right(i api.Ins) bool {
	if i.Op < 1 || i.Op > 39 {
		return false
	}
	operands := instructions()[i.Op-1].operands
	rightA := i.Op == 1 || operands > 0 && inRange(i.A) || i.A == 0
	rightB := operands == 2 && inRange(i.B) || i.B == 0
	return rightA && rightB
}

// P13.1: all instructions, and numbers of none, with all kinds of operands.
func TestRight(t *testing.T) {
	ops := noOps()
	for _, i := range instructions() {
		ops = append(ops, i.number)
	}
	for _, op := range ops {
		for _, a := range operandValues() {
			for _, b := range operandValues() {
				i := api.Ins{Op: op, A: a, B: b}
				if code.Right(i) != right(i) {
					t.Fatalf("Right(%+v) = %v", i, code.Right(i))
				}
			}
		}
	}
	for _, i := range []api.Ins{{Op: 1, A: math.MinInt64}, {Op: 1, A: math.MaxInt64}, {Op: 2}, {Op: 3, A: mostOperand}, {Op: 25, A: mostOperand, B: mostOperand}, {Op: 39}} {
		if !code.Right(i) {
			t.Errorf("Right(%+v) is false", i)
		}
	}
	for _, i := range []api.Ins{{}, {Op: 40}, {Op: 1, B: 1}, {Op: 2, A: 1}, {Op: 2, B: -1}, {Op: 3, A: -1}, {Op: 3, A: mostOperand + 1}, {Op: 20, A: 1, B: 1}, {Op: 25, A: -1}, {Op: 26, B: mostOperand + 1}} {
		if code.Right(i) {
			t.Errorf("Right(%+v) is true", i)
		}
	}
}

// sample: a program with something of everything.
func sample() api.Program {
	return api.Program{
		Classes: []api.Class{
			{Name: "node", Fields: []api.Field{{Name: "next", Type: api.Ref}, {Name: "n", Type: api.Int}}},
			{Name: "a"},
			{Name: "b", Fields: []api.Field{{Name: "x", Type: api.None}}},
		},
		Funcs: []api.Func{
			{Name: "main", Code: []api.Ins{{Op: code.Poll}, {Op: code.Const, A: -1}, {Op: code.Get, A: 1, B: 300}, {Op: code.Return}}},
			{Name: "f", Params: []int{1, 2, 0}, Result: api.Ref, Locals: []int{2, 1}, Code: []api.Ins{{Op: code.Load, A: mostOperand}}},
			{},
		},
	}
}

// sampleBytes: its bytes, written out by hand.
func sampleBytes() []byte {
	return slices.Concat(
		[]byte("WDR1"),
		[]byte{3},
		[]byte{4}, []byte("node"), []byte{2, 4}, []byte("next"), []byte{2, 1}, []byte("n"), []byte{1},
		[]byte{1}, []byte("a"), []byte{0},
		[]byte{1}, []byte("b"), []byte{1, 1}, []byte("x"), []byte{0},
		[]byte{3},
		[]byte{4}, []byte("main"), []byte{0, 0, 0, 4}, []byte{38, 1, 1, 25, 1, 0xAC, 2, 21},
		[]byte{1}, []byte("f"), []byte{3, 1, 2, 0}, []byte{2}, []byte{2, 2, 1}, []byte{1, 3, 0xFF, 0xFF, 0xFF, 0xFF, 7},
		[]byte{0, 0, 0, 0, 0},
	)
}

// P13.1: Equal compares everything, and an empty list is a missing one.
func TestEqual(t *testing.T) {
	l := changed()
	for i, x := range l {
		for k, y := range l {
			if code.Equal(x, y) != (i == k) {
				t.Errorf("Equal is %v of %+v and %+v", code.Equal(x, y), x, y)
			}
		}
	}
	if !code.Equal(api.Program{}, emptied(api.Program{})) || !code.Equal(emptied(sample()), sample()) || !code.Equal(sample(), emptied(sample())) {
		t.Error("an empty list is a missing one")
	}
	if code.Equal(api.Program{}, api.Program{Classes: make([]api.Class, 1)}) || code.Equal(api.Program{Funcs: make([]api.Func, 2)}, api.Program{Funcs: make([]api.Func, 1)}) {
		t.Error("a list of zero values is not an empty one")
	}
}

// changed: the sample, and programs that differ from it in one thing each, in different things.
func changed() []api.Program {
	l := []api.Program{sample(), {}}
	for _, change := range changes() {
		p := sample()
		change(&p)
		l = append(l, p)
	}
	return l
}

func changes() []func(p *api.Program) {
	return []func(p *api.Program){
		func(p *api.Program) { p.Classes = p.Classes[:2] },
		func(p *api.Program) { p.Classes = nil },
		func(p *api.Program) { p.Funcs = p.Funcs[:2] },
		func(p *api.Program) { p.Funcs = nil },
		func(p *api.Program) { p.Classes[0], p.Classes[1] = p.Classes[1], p.Classes[0] },
		func(p *api.Program) { p.Classes[1].Name = "A" },
		func(p *api.Program) { p.Classes[1].Name = "" },
		func(p *api.Program) { p.Classes[1].Fields = make([]api.Field, 1) },
		func(p *api.Program) { p.Classes[0].Fields = p.Classes[0].Fields[:1] },
		func(p *api.Program) { p.Classes[0].Fields[1].Name = "m" },
		func(p *api.Program) { p.Classes[0].Fields[1].Type = api.Ref },
		func(p *api.Program) { p.Classes[0].Fields[1].Type = 1<<32 + 1 },
		func(p *api.Program) { p.Funcs[0], p.Funcs[1] = p.Funcs[1], p.Funcs[0] },
		func(p *api.Program) { p.Funcs[1].Name = "g" },
		func(p *api.Program) { p.Funcs[1].Params = []int{1, 2} },
		func(p *api.Program) { p.Funcs[1].Params[2] = 1 },
		func(p *api.Program) { p.Funcs[1].Result = api.None },
		func(p *api.Program) { p.Funcs[1].Locals = nil },
		func(p *api.Program) { p.Funcs[1].Locals[0] = 1 },
		func(p *api.Program) { p.Funcs[0].Code = p.Funcs[0].Code[:3] },
		func(p *api.Program) { p.Funcs[0].Code[0].Op = code.Dup },
		func(p *api.Program) { p.Funcs[0].Code[2].A = 2 },
		func(p *api.Program) { p.Funcs[0].Code[2].B = 301 },
		func(p *api.Program) { p.Funcs[0].Code[3].B = math.MinInt64 },
		func(p *api.Program) { p.Funcs[2].Code = make([]api.Ins, 1) },
	}
}

// emptied: the same program with empty lists in place of missing ones.
func emptied(p api.Program) api.Program {
	own := api.Program{Classes: append([]api.Class{}, p.Classes...), Funcs: append([]api.Func{}, p.Funcs...)}
	for i := range own.Classes {
		own.Classes[i].Fields = append([]api.Field{}, own.Classes[i].Fields...)
	}
	for i := range own.Funcs {
		f := &own.Funcs[i]
		f.Params, f.Locals, f.Code = append([]int{}, f.Params...), append([]int{}, f.Locals...), append([]api.Ins{}, f.Code...)
	}
	return own
}

// P13.1 and P13.3: a copy is equal, whatever the program is, and stays when the program changes, as the program does when the copy changes.
func TestCopy(t *testing.T) {
	l := append(changed(), emptied(sample()), emptied(api.Program{}), wrongProgram())
	for _, p := range l {
		was := emptied(p)
		own := code.Copy(p)
		if !code.Equal(own, p) || !code.Equal(p, was) {
			t.Errorf("Copy(%+v) = %+v", p, own)
		}
		spoil(own)
		if !code.Equal(p, was) {
			t.Errorf("the copy of %+v shares memory with it", was)
		}
		own = code.Copy(p)
		spoil(p)
		if !code.Equal(own, was) {
			t.Errorf("the program %+v shares memory with its copy", was)
		}
	}
}

// wrongProgram: one that can't be written, with more than there may be of everything.
func wrongProgram() api.Program {
	var p api.Program
	for k := range 40 {
		c := api.Class{Name: strings.Repeat("c", k)}
		f := api.Func{Name: strings.Repeat("\xff", k), Result: -k, Params: make([]int, 30), Locals: make([]int, 300), Code: make([]api.Ins, 300)}
		for i := range 20 {
			c.Fields = append(c.Fields, api.Field{Type: i - 9})
			f.Params[i], f.Locals[i] = i-9, 9-i
			f.Code[i] = api.Ins{Op: i * 40, A: -9, B: int64(i)}
		}
		p.Classes, p.Funcs = append(p.Classes, c), append(p.Funcs, f)
	}
	return p
}

// spoil changes all that a program's lists hold, also in their spare capacity.
func spoil(p api.Program) {
	classes, funcs := p.Classes[:cap(p.Classes)], p.Funcs[:cap(p.Funcs)]
	for i, c := range classes {
		for k := range c.Fields[:cap(c.Fields)] {
			c.Fields[:cap(c.Fields)][k] = api.Field{Name: "spoilt", Type: 77}
		}
		classes[i].Name = "spoilt"
	}
	for i, f := range funcs {
		for k := range f.Params[:cap(f.Params)] {
			f.Params[:cap(f.Params)][k] = 77
		}
		for k := range f.Locals[:cap(f.Locals)] {
			f.Locals[:cap(f.Locals)][k] = 77
		}
		for k := range f.Code[:cap(f.Code)] {
			f.Code[:cap(f.Code)][k] = api.Ins{Op: 77, A: 77, B: 77}
		}
		funcs[i].Name, funcs[i].Result = "spoilt", 77
	}
}

// seed makes numbers without a pattern, the same in each run.
type seed uint64

func (s *seed) next() uint64 {
	x := *s
	x ^= x << 13
	x ^= x >> 7
	x ^= x << 17
	*s = x
	return uint64(x)
}

func (s *seed) below(n int) int { return int(s.next() % uint64(n)) }

// rarely: once in so many times as wrongs says; never if it is 0.
func (s *seed) rarely(wrongs int) bool { return wrongs > 0 && s.below(wrongs) == 0 }

// count: one that may be, rather often the greatest or 0; rarely one more.
func (s *seed) count(most, wrongs int) int {
	if s.rarely(wrongs) {
		return most + 1 + s.below(3)
	}
	switch s.below(8) {
	case 0:
		return most
	case 1:
		return 0
	}
	return s.below(most + 1)
}

func (s *seed) name(wrongs int) string {
	n := s.count(4*(1+3*s.below(2)), 0)
	if s.rarely(wrongs) {
		n = 17 + s.below(300)
	}
	b := make([]byte, n)
	for i := range b {
		b[i] = byte(s.next())
	}
	return string(b)
}

func (s *seed) kind(wrongs int) int {
	if s.rarely(wrongs) {
		return []int{-1, 3, 4, 255, 256, 257, 1 << 32, math.MinInt, math.MaxInt}[s.below(9)]
	}
	return s.below(3)
}

func (s *seed) kinds(most, wrongs int) []int {
	var l []int
	for range s.count(most, wrongs*2) {
		l = append(l, s.kind(wrongs*9))
	}
	return l
}

func (s *seed) operand() int64 { return int64(s.next() % (1 << (1 + s.below(31)))) }

func (s *seed) instruction(wrongs int) api.Ins {
	i := api.Ins{Op: 1 + s.below(39)}
	operands := instructions()[i.Op-1].operands
	if i.Op == code.Const {
		i.A = int64(s.next()) >> s.below(64)
	} else if operands > 0 {
		i.A = s.operand()
	}
	if operands == 2 {
		i.B = s.operand()
	}
	if s.rarely(wrongs) {
		switch s.below(3) {
		case 0:
			i.Op = s.below(300) - 100
		case 1:
			i.A = operandValues()[s.below(len(operandValues()))]
		case 2:
			i.B = operandValues()[s.below(len(operandValues()))]
		}
	}
	return i
}

// program: one without a wrong thing, or now and then one with some.
func (s *seed) program(wrongs int) api.Program {
	var p api.Program
	for range s.count(4*(1+3*s.below(2)), 0) {
		c := api.Class{Name: s.name(wrongs)}
		for range s.count(15, wrongs) {
			c.Fields = append(c.Fields, api.Field{Name: s.name(wrongs * 9), Type: s.kind(wrongs * 9)})
		}
		p.Classes = append(p.Classes, c)
	}
	if s.rarely(wrongs) {
		p.Classes = append(p.Classes, make([]api.Class, 17)...)
	}
	for range s.count(3*(1+3*s.below(2)), 0) {
		f := api.Func{Name: s.name(wrongs), Params: s.kinds(6, wrongs), Result: s.kind(wrongs * 9), Locals: s.kinds(16, wrongs)}
		for range s.count(256>>s.below(8), 0) {
			f.Code = append(f.Code, s.instruction(wrongs*9))
		}
		if s.rarely(wrongs) {
			f.Code = append(f.Code, make([]api.Ins, 257)...)
		}
		p.Funcs = append(p.Funcs, f)
	}
	if s.rarely(wrongs) {
		p.Funcs = append(p.Funcs, make([]api.Func, 17)...)
	}
	return p
}

// greatest: the program with the most bytes.
func greatest() api.Program {
	var p api.Program
	for k := range 16 {
		name := strings.Repeat("n", 14) + strconv.Itoa(10+k)
		c := api.Class{Name: name}
		for i := range 15 {
			c.Fields = append(c.Fields, api.Field{Name: name, Type: i % 3})
		}
		p.Classes = append(p.Classes, c)
		f := api.Func{Name: name, Params: make([]int, 6), Result: 2, Locals: make([]int, 16)}
		for i := range 256 {
			if i%2 == 0 {
				f.Code = append(f.Code, api.Ins{Op: code.Const, A: math.MinInt64 + int64(i)})
			} else {
				f.Code = append(f.Code, api.Ins{Op: code.Cas, A: mostOperand, B: mostOperand - int64(i)})
			}
		}
		p.Funcs = append(p.Funcs, f)
	}
	return p
}
