package asm_test

import (
	"math"
	"slices"
	"strconv"
	"strings"
	"testing"

	"windrow/api"
	"windrow/asm"
	"windrow/code"
)

// cannotPrint: the error of a program by the chapter's words, that of too long a text aside.
func cannotPrint(p api.Program) api.Errno {
	if len(p.Classes) > 16 {
		return api.ErrBig
	}
	isType := func(n int) bool { return n == 1 || n == 2 }
	for k, c := range p.Classes {
		if !aName.MatchString(c.Name) {
			return api.ErrName
		}
		if slices.ContainsFunc(p.Classes[:k], func(x api.Class) bool { return x.Name == c.Name }) {
			return api.ErrTwice
		}
		if len(c.Fields) > 15 {
			return api.ErrBig
		}
		for i, f := range c.Fields {
			if !aName.MatchString(f.Name) {
				return api.ErrName
			}
			if slices.ContainsFunc(c.Fields[:i], func(x api.Field) bool { return x.Name == f.Name }) {
				return api.ErrTwice
			}
			if !isType(f.Type) {
				return api.ErrType
			}
		}
	}
	if len(p.Funcs) > 16 {
		return api.ErrBig
	}
	for k, f := range p.Funcs {
		switch {
		case !aName.MatchString(f.Name):
			return api.ErrName
		case slices.ContainsFunc(p.Funcs[:k], func(x api.Func) bool { return x.Name == f.Name }):
			return api.ErrTwice
		case len(f.Params) > 6:
			return api.ErrBig
		case slices.ContainsFunc(f.Params, func(n int) bool { return !isType(n) }):
			return api.ErrType
		case f.Result != 0 && !isType(f.Result):
			return api.ErrType
		case len(f.Locals) > 16:
			return api.ErrBig
		case slices.ContainsFunc(f.Locals, func(n int) bool { return !isType(n) }):
			return api.ErrType
		case len(f.Code) > 256:
			return api.ErrBig
		}
	}
	for _, f := range p.Funcs {
		for _, i := range f.Code {
			if e := cannotHave(p, f, i); e != api.OK {
				return e
			}
		}
	}
	return api.OK
}

func cannotHave(p api.Program, f api.Func, i api.Ins) api.Errno {
	if !code.Right(i) {
		return api.ErrOp
	}
	switch i.Op {
	case code.Jump, code.JumpIf:
		if i.A > int64(len(f.Code)) {
			return api.ErrTarget
		}
	case code.Call, code.Spawn:
		if i.A >= int64(len(p.Funcs)) {
			return api.ErrFunc
		}
	case code.New, code.Get, code.Put, code.Cas:
		if i.A >= int64(len(p.Classes)) {
			return api.ErrClass
		}
		if i.Op != code.New && i.B >= int64(len(p.Classes[i.A].Fields)) {
			return api.ErrField
		}
	}
	return api.OK
}

// checkPrint holds Print against the chapter's words, and Parse against Print.
func checkPrint(t *testing.T, p api.Program) api.Errno {
	t.Helper()
	text, e := asm.Print(p)
	want, wantE := "", cannotPrint(p)
	if wantE == api.OK {
		want = textOf(p)
	}
	if len(want) > 65536 {
		want, wantE = "", api.ErrBig
	}
	if text != want || e != wantE {
		t.Fatalf("Print(%+v) = %q, %d, not %q, %d", p, text, e, want, wantE)
	}
	if e == api.OK && !code.Equal(parsed(t, text), p) {
		t.Fatalf("Parse(Print(%+v)) = %+v", p, parsed(t, text))
	}
	return e
}

// someFuncs: so many functions without instructions.
func someFuncs(n int) []api.Func {
	var l []api.Func
	for k := range n {
		l = append(l, api.Func{Name: "f" + strconv.Itoa(k)})
	}
	return l
}

func someClasses(n int) []api.Class {
	var l []api.Class
	for k := range n {
		l = append(l, api.Class{Name: "c" + strconv.Itoa(k)})
	}
	return l
}

func someFields(n int) []api.Field {
	var l []api.Field
	for k := range n {
		l = append(l, api.Field{Name: "x" + strconv.Itoa(k), Type: 1 + k%2})
	}
	return l
}

// ints: n ones, then these.
func ints(n int, more ...int) []int { return append(slices.Repeat([]int{1}, n), more...) }

// adds: n of the instruction.
func adds(n int, more ...api.Ins) []api.Ins {
	return append(slices.Repeat([]api.Ins{{Op: code.Add}}, n), more...)
}

// of: a program of some functions; those without a name get one.
func of(l ...api.Func) api.Program {
	for k := range l {
		if l[k].Name == "" {
			l[k].Name = "f" + strconv.Itoa(k)
		}
	}
	return api.Program{Funcs: l}
}

// P14.1: each error, and which one comes first where there are several.
func TestPrintErrors(t *testing.T) {
	x := []api.Field{{Name: "x", Type: 1}}
	wrong := []api.Ins{{Op: 77}}
	known := []struct {
		name string
		p    api.Program
		e    api.Errno
	}{
		{"too many classes", api.Program{Classes: someClasses(17)}, api.ErrBig},
		{"a class without a name", api.Program{Classes: []api.Class{{}}}, api.ErrName},
		{"a class twice", api.Program{Classes: []api.Class{{Name: "a"}, {Name: "a"}}}, api.ErrTwice},
		{"too many fields", api.Program{Classes: []api.Class{{Name: "a", Fields: someFields(16)}}}, api.ErrBig},
		{"a field without a name", api.Program{Classes: []api.Class{{Name: "a", Fields: []api.Field{{Name: "x:int", Type: 1}}}}}, api.ErrName},
		{"a field twice", api.Program{Classes: []api.Class{{Name: "a", Fields: append(x, x...)}}}, api.ErrTwice},
		{"a field of no type", api.Program{Classes: []api.Class{{Name: "a", Fields: []api.Field{{Name: "x"}}}}}, api.ErrType},
		{"classes ahead of too many functions", api.Program{Classes: []api.Class{{Name: "a", Fields: []api.Field{{Name: "x"}}}}, Funcs: someFuncs(17)}, api.ErrType},
		{"too many functions", api.Program{Funcs: someFuncs(17)}, api.ErrBig},
		{"too many functions without names", api.Program{Funcs: make([]api.Func, 17)}, api.ErrBig},
		{"no name", api.Program{Funcs: []api.Func{{}}}, api.ErrName},
		{"a name with a space", of(api.Func{Name: "a b"}), api.ErrName},
		{"a name too long", of(api.Func{Name: "abcdefghijklmnopq"}), api.ErrName},
		{"a name of two lines", of(api.Func{Name: "a\nend"}), api.ErrName},
		{"twice no name", of(api.Func{Name: "1"}, api.Func{Name: "1"}), api.ErrName},
		{"no name ahead of too many parameters", of(api.Func{Name: "1", Params: ints(7)}), api.ErrName},
		{"twice", of(api.Func{Name: "a"}, api.Func{Name: "b"}, api.Func{Name: "a"}), api.ErrTwice},
		{"twice ahead of too many parameters", of(api.Func{Name: "a"}, api.Func{Name: "a", Params: ints(7)}), api.ErrTwice},
		{"a wrong one ahead of one twice", of(api.Func{Name: "a", Params: ints(7)}, api.Func{Name: "a"}), api.ErrBig},
		{"too many parameters", of(api.Func{Params: ints(7)}), api.ErrBig},
		{"too many parameters of no type", of(api.Func{Params: make([]int, 7)}), api.ErrBig},
		{"a parameter of no type", of(api.Func{Params: ints(5, 0)}), api.ErrType},
		{"a parameter of type 3", of(api.Func{Params: ints(0, 3)}), api.ErrType},
		{"a parameter of a type within 32 bits", of(api.Func{Params: ints(0, 1<<32+1)}), api.ErrType},
		{"a parameter's type ahead of too many other locals", of(api.Func{Params: []int{0}, Locals: ints(17)}), api.ErrType},
		{"a result of type 3", of(api.Func{Result: 3}), api.ErrType},
		{"a result of type -1", of(api.Func{Result: -1}), api.ErrType},
		{"a result of no type ahead of too many other locals", of(api.Func{Result: 3, Locals: ints(17)}), api.ErrType},
		{"too many other locals", of(api.Func{Locals: ints(17)}), api.ErrBig},
		{"too many other locals of no type", of(api.Func{Locals: make([]int, 17)}), api.ErrBig},
		{"another local of no type", of(api.Func{Locals: ints(2, 0)}), api.ErrType},
		{"another local of no type ahead of too many instructions", of(api.Func{Locals: []int{math.MinInt}, Code: adds(257)}), api.ErrType},
		{"too many instructions", of(api.Func{Code: adds(257)}), api.ErrBig},
		{"too many instructions, all wrong", of(api.Func{Code: make([]api.Ins, 257)}), api.ErrBig},
		{"a later function ahead of an instruction", of(api.Func{Code: wrong}, api.Func{Name: "1"}), api.ErrName},
		{"no instruction", of(api.Func{Code: adds(0, api.Ins{})}), api.ErrOp},
		{"an instruction of another number", of(api.Func{Code: adds(3, api.Ins{Op: 40})}), api.ErrOp},
		{"an operand that there isn't", of(api.Func{Code: adds(0, api.Ins{Op: code.Add, A: 1})}), api.ErrOp},
		{"an operand below 0", of(api.Func{Code: adds(0, api.Ins{Op: code.Jump, A: -1})}), api.ErrOp},
		{"an operand too great", of(api.Func{Code: adds(0, api.Ins{Op: code.Call, A: 1 << 31})}), api.ErrOp},
		{"a second operand too great", api.Program{Classes: []api.Class{{Name: "a", Fields: x}}, Funcs: []api.Func{{Name: "f", Code: adds(0, api.Ins{Op: code.Get, B: 1 << 32})}}}, api.ErrOp},
		{"a jump beyond the end", of(api.Func{Code: adds(2, api.Ins{Op: code.Jump, A: 4})}), api.ErrTarget},
		{"a jump far beyond the end", of(api.Func{Code: adds(2, api.Ins{Op: code.JumpIf, A: 1<<31 - 1})}), api.ErrTarget},
		{"a jump beyond the end, within the next function", of(api.Func{Code: adds(0, api.Ins{Op: code.JumpIf, A: 2})}, api.Func{Code: adds(9)}), api.ErrTarget},
		{"no function", of(api.Func{Code: adds(0, api.Ins{Op: code.Call, A: 1})}), api.ErrFunc},
		{"no function", of(api.Func{Code: adds(0, api.Ins{Op: code.Spawn, A: 1<<31 - 1})}), api.ErrFunc},
		{"no class", of(api.Func{Code: adds(0, api.Ins{Op: code.New})}), api.ErrClass},
		{"no class", api.Program{Classes: someClasses(16), Funcs: []api.Func{{Name: "f", Code: adds(0, api.Ins{Op: code.New, A: 16})}}}, api.ErrClass},
		{"no class of a field", of(api.Func{Code: adds(0, api.Ins{Op: code.Put})}), api.ErrClass},
		{"no field", api.Program{Classes: []api.Class{{Name: "a", Fields: x}}, Funcs: []api.Func{{Name: "f", Code: adds(0, api.Ins{Op: code.Cas, B: 1})}}}, api.ErrField},
		{"no field of this class", api.Program{Classes: []api.Class{{Name: "a", Fields: someFields(9)}, {Name: "b", Fields: x}}, Funcs: []api.Func{{Name: "f", Code: adds(0, api.Ins{Op: code.Get, A: 1, B: 1})}}}, api.ErrField},
		{"the first wrong instruction", of(api.Func{Code: adds(1, api.Ins{Op: code.Call, A: 9}, api.Ins{Op: 40}, api.Ins{Op: code.New})}), api.ErrFunc},
		{"the first function's wrong instruction", of(api.Func{Code: adds(1, api.Ins{Op: code.New})}, api.Func{Code: wrong}), api.ErrClass},
		{"a wrong instruction ahead of too long a text", api.Program{Classes: longClasses(), Funcs: append(longFuncs(16)[:15:15], api.Func{Name: "z", Code: wrong})}, api.ErrOp},
		{"too long a text", api.Program{Classes: longClasses(), Funcs: longFuncs(16)}, api.ErrBig},
	}
	for _, k := range known {
		if e := checkPrint(t, k.p); e != k.e {
			t.Errorf("%s: %d, not %d", k.name, e, k.e)
		}
	}
	limits := of(api.Func{Params: ints(6), Locals: ints(16), Code: adds(255, api.Ins{Op: code.Jump, A: 256})})
	limits.Classes = someClasses(16)
	limits.Classes[3].Fields = someFields(15)
	limits.Funcs = append(limits.Funcs, someFuncs(16)[1:]...)
	if e := checkPrint(t, limits); e != api.OK {
		t.Error("everything at its limit:", e)
	}
}

// longClasses: one with a long name, and a field with one.
func longClasses() []api.Class {
	return []api.Class{{Name: "abcdefghijklmnop", Fields: []api.Field{{Name: "abcdefghijklmnop", Type: 1}}}}
}

// longFuncs: so many functions full of instructions with long names.
func longFuncs(n int) []api.Func {
	l := someFuncs(n)
	for k := range l {
		l[k].Code = slices.Repeat([]api.Ins{{Op: code.Get}}, 256)
	}
	return l
}

// P14.1: texts of just the greatest length, and a byte longer.
func TestPrintLongest(t *testing.T) {
	p := api.Program{Classes: longClasses(), Funcs: longFuncs(6)}
	room := 65536 - len(textOf(p)) - len("func g\nend\n")
	last := api.Func{Name: "g"}
	fill := func(i api.Ins) {
		for size := 3 + len(wordsOf(p, i)); room >= size+len("  const 1\n"); room -= size {
			last.Code = append(last.Code, i)
		}
	}
	fill(api.Ins{Op: code.Get})
	fill(api.Ins{Op: code.Add})
	digits := strings.Repeat("1", room-len("  const \n"))
	n, _ := strconv.ParseInt(digits, 10, 64)
	last.Code = append(last.Code, api.Ins{Op: code.Const, A: n})
	p.Funcs = append(p.Funcs, last)
	for more, want := range []api.Errno{api.OK, api.ErrBig, api.ErrBig} {
		name := strings.Repeat("g", 1+more)
		p.Funcs[6].Name = name
		if got := len(textOf(p)); got != 65536+more {
			t.Fatalf("the test's text has %d bytes", got)
		}
		if e := checkPrint(t, p); e != want {
			t.Errorf("%d bytes: %d", 65536+more, e)
		}
	}
}

// wrongProgram: one that has a text but for a few things, that may be wrong.
func (s *seed) wrongProgram() api.Program {
	p := s.program()
	number := func() int {
		return []int{-1, 0, 1, 2, 3, 15, 16, 17, 39, 40, 256, 257, math.MinInt, math.MaxInt, 1<<31 - 1, 1 << 31, 1 << 32}[s.below(17)]
	}
	name := func() string { return []string{"a", "f", "L0", "", "1", "a b", "abcdefghijklmnopq"}[s.below(7)] }
	for range 1 + s.below(3) {
		switch s.below(11) {
		case 0:
			p.Classes = append(p.Classes, someClasses(s.below(18))...)
		case 1:
			p.Classes = append(p.Classes, api.Class{Name: name(), Fields: append(someFields(s.below(17)), api.Field{Name: name(), Type: number()})})
		case 2:
			p.Funcs = append(p.Funcs, someFuncs(s.below(18))...)
		}
		if len(p.Funcs) == 0 {
			continue
		}
		f := &p.Funcs[s.below(len(p.Funcs))]
		switch s.below(9) {
		case 0:
			f.Name = name()
		case 1:
			f.Params = append(f.Params, number())
		case 2:
			f.Locals = append(f.Locals, number())
		case 3:
			f.Result = number()
		case 4:
			f.Code = append(f.Code, adds(number()&0x1FF)...)
		case 5:
			f.Code = append(f.Code, api.Ins{Op: code.Get + s.below(3), A: int64(s.below(len(p.Classes) + 1)), B: int64(s.below(8))})
		default:
			f.Code = append(f.Code, api.Ins{Op: 1 + s.below(40), A: int64(number()), B: int64(number() * s.below(2))})
		}
	}
	return p
}

// P14.1: many programs, most of which have no text.
func TestPrintMany(t *testing.T) {
	random := seed(1442695040888963407)
	seen := map[api.Errno]int{}
	for range 5000 {
		seen[checkPrint(t, random.wrongProgram())]++
	}
	for _, e := range []api.Errno{api.OK, api.ErrName, api.ErrTwice, api.ErrBig, api.ErrType, api.ErrOp, api.ErrTarget, api.ErrFunc, api.ErrClass, api.ErrField} {
		if seen[e] < 10 {
			t.Error("error", e, "was hardly tried:", seen[e])
		}
	}
}

// Rule 4: Print leaves its program as it is, also behind the ends of its lists.
func TestPrintMemory(t *testing.T) {
	given := wholeProgram()
	given.Classes = append(make([]api.Class, 0, 9), given.Classes...)
	given.Funcs = append(make([]api.Func, 0, 9), given.Funcs...)
	for k := range given.Funcs {
		f := &given.Funcs[k]
		f.Params, f.Locals = append(make([]int, 0, 9), f.Params...), append(make([]int, 0, 9), f.Locals...)
		f.Code = append(make([]api.Ins, 0, 99), f.Code...)
	}
	for range 2 {
		if text := printed(t, given); text != wholeText {
			t.Errorf("printed as %q", text)
		}
	}
	if !code.Equal(given, wholeProgram()) || given.Classes[:9][8].Name != "" || given.Funcs[:9][8].Name != "" {
		t.Errorf("Print changed its program to %+v", given)
	}
	for _, f := range given.Funcs {
		if !isZero(f.Params) || !isZero(f.Locals) || !isZero(f.Code) {
			t.Errorf("Print wrote behind the lists of %s", f.Name)
		}
	}
}

// isZero: are the things in a list's spare capacity zero values?
func isZero[T comparable](l []T) bool {
	var none T
	return !slices.ContainsFunc(l[len(l):cap(l)], func(x T) bool { return x != none })
}
