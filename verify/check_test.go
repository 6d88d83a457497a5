package verify_test

import (
	"math"
	"strconv"
	"strings"
	"testing"

	"windrow/api"
	"windrow/code"
	"windrow/verify"
)

// fault is a way to make a program wrong, and what Check says of it.
type fault struct {
	name string
	make func(p *api.Program)
	at   verify.Place
	e    api.Errno
}

// good: a program of which a fault makes a wrong one: three functions with instructions that are reached up to 4, and with
// some behind them that are not.
func good() api.Program {
	p := api.Program{Classes: []api.Class{
		{Name: "a", Fields: []api.Field{{Name: "x", Type: api.Int}, {Name: "y", Type: api.Ref}}},
		{Name: "b", Fields: []api.Field{{Name: "x", Type: api.Ref}}},
	}}
	for i, name := range []string{"main", "f", "g"} {
		f := api.Func{Name: name, Locals: []int{api.Int, api.Ref}, Code: []api.Ins{{Op: code.Poll}, {Op: code.Collect}, {Op: code.Collect}, {Op: code.Collect}, {Op: code.Return}}}
		if i > 0 {
			f.Params = []int{api.Ref}
		}
		for len(f.Code) < 40 {
			f.Code = append(f.Code, api.Ins{Op: code.Collect})
		}
		p.Funcs = append(p.Funcs, f)
	}
	return p
}

// many: so many locals.
func many(n int) []int {
	l := make([]int, n)
	for i := range l {
		l[i] = api.Int
	}
	return l
}

// shapeFaults: what can be wrong with a function but for its instructions, in the chapter's order.
func shapeFaults(fn int) []fault {
	at := verify.Place{Fn: fn}
	of := func(name string, e api.Errno, make func(f *api.Func)) fault {
		return fault{name + strconv.Itoa(fn), func(p *api.Program) { make(&p.Funcs[fn]) }, at, e}
	}
	l := []fault{
		of("name", api.ErrName, func(f *api.Func) { f.Name = "1" + f.Name }),
		of("params", api.ErrBig, func(f *api.Func) { f.Params = many(7) }),
		of("locals", api.ErrBig, func(f *api.Func) { f.Locals = many(17 - len(f.Params)) }),
		of("code", api.ErrBig, func(f *api.Func) { f.Code = append(f.Code, make([]api.Ins, 257-len(f.Code))...) }),
		of("param", api.ErrType, func(f *api.Func) { f.Params = append(f.Params, api.None) }),
		of("local", api.ErrType, func(f *api.Func) { f.Locals = append(f.Locals, 3) }),
		of("result", api.ErrType, func(f *api.Func) { f.Result = 3 }),
		of("no code", api.ErrFall, func(f *api.Func) { f.Code = nil }),
	}
	if fn == 0 {
		l = append(l, of("entry", api.ErrEntry, func(f *api.Func) { f.Params = append(f.Params, api.Int) }), of("result", api.ErrEntry, func(f *api.Func) { f.Result = api.Ref }))
	} else {
		twice := of("twice", api.ErrTwice, func(f *api.Func) {})
		twice.make = func(p *api.Program) { p.Funcs[fn].Name = p.Funcs[0].Name }
		l = append([]fault{l[0], twice}, l[1:]...)
	}
	return l
}

// bodyFaults: instructions that name what there isn't, each at its own place, then polls that are missing.
func bodyFaults(fn int) []fault {
	var l []fault
	add := func(name string, pc int, i api.Ins, e api.Errno) {
		l = append(l, fault{name + strconv.Itoa(fn), func(p *api.Program) {
			if pc < len(p.Funcs[fn].Code) {
				p.Funcs[fn].Code[pc] = i
			}
		}, verify.Place{Fn: fn, Pc: pc}, e})
	}
	locals := int64(len(good().Funcs[fn].Params) + 2)
	add("op 0 ", 5, api.Ins{}, api.ErrOp)
	add("op 40 ", 6, api.Ins{Op: 40}, api.ErrOp)
	add("operand ", 7, api.Ins{Op: code.Add, A: 1}, api.ErrOp)
	add("second operand ", 8, api.Ins{Op: code.Load, B: 1}, api.ErrOp)
	add("below 0 ", 9, api.Ins{Op: code.Load, A: -1}, api.ErrOp)
	add("greatest ", 10, api.Ins{Op: code.Jump, A: 1 << 31}, api.ErrOp)
	add("load ", 11, api.Ins{Op: code.Load, A: locals}, api.ErrLocal)
	add("store ", 12, api.Ins{Op: code.Store, A: 1<<31 - 1}, api.ErrLocal)
	add("jump ", 13, api.Ins{Op: code.Jump, A: 40}, api.ErrTarget)
	add("jumpif ", 14, api.Ins{Op: code.JumpIf, A: 1<<31 - 1}, api.ErrTarget)
	add("call ", 15, api.Ins{Op: code.Call, A: 3}, api.ErrFunc)
	add("spawn ", 16, api.Ins{Op: code.Spawn, A: 1<<31 - 1}, api.ErrFunc)
	add("new ", 17, api.Ins{Op: code.New, A: 2}, api.ErrClass)
	add("get's class ", 18, api.Ins{Op: code.Get, A: 2, B: 5}, api.ErrClass)
	add("put's field ", 19, api.Ins{Op: code.Put, A: 0, B: 2}, api.ErrField)
	add("cas's field ", 20, api.Ins{Op: code.Cas, A: 1, B: 1}, api.ErrField)
	add("global ", 21, api.Ins{Op: code.Global, A: 8}, api.ErrGlobal)
	add("setglobal ", 22, api.Ins{Op: code.SetGlobal, A: 1<<31 - 1}, api.ErrGlobal)
	add("first poll ", 0, api.Ins{Op: code.Collect}, api.ErrPoll)
	add("jumpif back ", 23, api.Ins{Op: code.JumpIf, A: 22}, api.ErrPoll)
	add("jump to itself ", 24, api.Ins{Op: code.Jump, A: 24}, api.ErrPoll)
	add("jump back ", 25, api.Ins{Op: code.Jump, A: 1}, api.ErrPoll)
	return l
}

// typeFaults: instructions that are reached and find another stack, each at its own place.
func typeFaults(fn int) []fault {
	var l []fault
	add := func(name string, pc int, i api.Ins, e api.Errno) {
		l = append(l, fault{name + strconv.Itoa(fn), func(p *api.Program) {
			if pc < len(p.Funcs[fn].Code) {
				p.Funcs[fn].Code[pc] = i
			}
		}, verify.Place{Fn: fn, Pc: pc}, e})
	}
	add("drop ", 1, api.Ins{Op: code.Drop}, api.ErrDepth)
	add("load of none ", 2, api.Ins{Op: code.Load, A: int64(len(good().Funcs[fn].Params))}, api.ErrType)
	add("neg ", 3, api.Ins{Op: code.Neg}, api.ErrDepth)
	return l
}

// faults: all of them, in the chapter's order.
func faults() []fault {
	l := []fault{
		{"classes", func(p *api.Program) { p.Classes = append(p.Classes, make([]api.Class, 15)...) }, verify.Place{Fn: -1}, api.ErrBig},
		{"class", func(p *api.Program) { p.Classes[0].Name = "" }, verify.Place{Fn: -1}, api.ErrName},
		{"fields", func(p *api.Program) { p.Classes[1].Fields = make([]api.Field, 16) }, verify.Place{Fn: -1, Pc: 1}, api.ErrBig},
		{"field", func(p *api.Program) { p.Classes[1].Fields[0].Type = api.None }, verify.Place{Fn: -1, Pc: 1}, api.ErrType},
		{"no functions", func(p *api.Program) { p.Funcs = nil }, verify.Place{}, api.ErrFunc},
		{"functions", func(p *api.Program) { p.Funcs = append(p.Funcs, make([]api.Func, 17-len(p.Funcs))...) }, verify.Place{}, api.ErrBig},
	}
	for fn := range 3 {
		l = append(l, shapeFaults(fn)...)
	}
	for fn := range 3 {
		l = append(l, bodyFaults(fn)...)
	}
	for fn := range 3 {
		l = append(l, typeFaults(fn)...)
	}
	return l
}

// P15.1: each fault alone, and of any two the one that comes first in the chapter's order.
func TestOrder(t *testing.T) {
	right(t, good())
	l := faults()
	for i, x := range l {
		p := good()
		x.make(&p)
		wrong(t, p, x.at.Fn, x.at.Pc, x.e)
		for _, y := range l[i+1:] {
			if y.name == "no functions" {
				continue // of which none can be wrong in another way
			}
			p := good()
			y.make(&p)
			x.make(&p)
			c, place, e := verify.Check(p)
			if c != nil || place != x.at || e != x.e {
				t.Errorf("%s, with %s: %+v, %d, not %+v, %d", x.name, y.name, place, e, x.at, x.e)
			}
		}
	}
}

// P15.1: everything at its limit is right, and one more is not.
func TestLimits(t *testing.T) {
	p := good()
	for len(p.Funcs) < 16 {
		p.Funcs = append(p.Funcs, api.Func{Name: "n" + strconv.Itoa(len(p.Funcs)), Code: []api.Ins{{Op: code.Poll}, {Op: code.Return}}})
	}
	p.Funcs[15].Code[1] = api.Ins{Op: code.Jump, A: 0}
	p.Funcs[1].Params = []int{1, 2, 1, 2, 1, 2}
	p.Funcs[1].Locals = many(10)
	p.Funcs[0].Locals = many(16)
	p.Funcs[0].Result = api.Int
	p.Funcs[0].Code[1] = api.Ins{Op: code.Call, A: 15}
	p.Funcs[0].Code[3] = api.Ins{Op: code.Const, A: math.MinInt64}
	p.Funcs[0].Code[20] = api.Ins{Op: code.Load, A: 15}
	p.Funcs[0].Code[21] = api.Ins{Op: code.Spawn, A: 15}
	p.Funcs[0].Code[22] = api.Ins{Op: code.Global, A: 7}
	p.Funcs[0].Code[23] = api.Ins{Op: code.JumpIf, A: 39}
	p.Funcs[0].Code[24] = api.Ins{Op: code.Get, A: 1, B: 0}
	p.Funcs[0].Code[25] = api.Ins{Op: code.JumpIf, A: 0}
	p.Funcs[0].Code[26] = api.Ins{Op: code.Jump, A: 27}
	p.Funcs[1].Name = "abcdefghijklmnop"
	p.Funcs[2].Code = append(p.Funcs[2].Code, make([]api.Ins, 216)...)
	for pc := 40; pc < 256; pc++ {
		p.Funcs[2].Code[pc] = api.Ins{Op: code.Poll}
	}
	right(t, p)
	for _, x := range []struct {
		fn, pc int
		e      api.Errno
		make   func(p *api.Program)
	}{
		{0, 0, api.ErrBig, func(p *api.Program) { p.Funcs = append(p.Funcs, api.Func{Name: "z", Code: p.Funcs[3].Code}) }},
		{1, 0, api.ErrBig, func(p *api.Program) { p.Funcs[1].Params, p.Funcs[1].Locals = many(7), nil }},
		{1, 0, api.ErrBig, func(p *api.Program) { p.Funcs[1].Locals = many(11) }},
		{0, 0, api.ErrBig, func(p *api.Program) { p.Funcs[0].Locals = many(17) }},
		{2, 0, api.ErrBig, func(p *api.Program) { p.Funcs[2].Code = append(p.Funcs[2].Code, api.Ins{Op: code.Poll}) }},
		{1, 0, api.ErrName, func(p *api.Program) { p.Funcs[1].Name += "q" }},
		{15, 0, api.ErrTwice, func(p *api.Program) { p.Funcs[15].Name = p.Funcs[14].Name }},
		{0, 1, api.ErrFunc, func(p *api.Program) { p.Funcs[0].Code[1].A = 16 }},
		{0, 20, api.ErrLocal, func(p *api.Program) { p.Funcs[0].Code[20].A = 16 }},
		{0, 21, api.ErrFunc, func(p *api.Program) { p.Funcs[0].Code[21].A = 16 }},
		{0, 22, api.ErrGlobal, func(p *api.Program) { p.Funcs[0].Code[22].A = 8 }},
		{0, 23, api.ErrTarget, func(p *api.Program) { p.Funcs[0].Code[23].A = 40 }},
		{0, 24, api.ErrField, func(p *api.Program) { p.Funcs[0].Code[24].B = 1 }},
		{0, 25, api.ErrPoll, func(p *api.Program) { p.Funcs[0].Code[25].A = 1 }},
		{0, 26, api.ErrPoll, func(p *api.Program) { p.Funcs[0].Code[26].A = 26 }},
	} {
		q := code.Copy(p)
		x.make(&q)
		wrong(t, q, x.fn, x.pc, x.e)
	}
}

// P15.1: types that are none, for each place where one stands.
func TestTypes(t *testing.T) {
	for _, kind := range []int{math.MinInt, -1, 0, 3, 4, 1 << 8, 1<<8 + 1, 1<<32 + 1, math.MaxInt} {
		for fn := range 3 {
			for n, change := range []func(f *api.Func){
				func(f *api.Func) { f.Locals[0] = kind },
				func(f *api.Func) { f.Locals[1] = kind },
				func(f *api.Func) { f.Params = append(f.Params, kind) },
				func(f *api.Func) { f.Result = kind },
			} {
				p := good()
				change(&p.Funcs[fn])
				if n == 3 && kind == api.None {
					right(t, p)
				} else {
					wrong(t, p, fn, 0, api.ErrType)
				}
			}
		}
	}
}

// P15.1: the first function has no parameters and answers no reference; others may.
func TestEntry(t *testing.T) {
	p := parsed(t, "func main -> int\npoll\nconst 1\nreturn\nend\nfunc f ref -> ref\npoll\nload 0\nreturn\nend\n")
	right(t, p)
	p.Funcs[0], p.Funcs[1] = p.Funcs[1], p.Funcs[0]
	wrong(t, p, 0, 0, api.ErrEntry)
	for _, text := range []string{"func main int\npoll\nreturn\nend", "func main ref\npoll\nreturn\nend", "func main -> ref\npoll\nnull\nreturn\nend"} {
		wrong(t, parsed(t, text), 0, 0, api.ErrEntry)
	}
	right(t, parsed(t, "func other\npoll\nreturn\nend"))
}

// P15.1: names of functions that are none or there already.
func TestNames(t *testing.T) {
	for _, name := range []string{"", "1", "_a", "a b", "a-", "ä", "abcdefghijklmnopq", strings.Repeat("a", 70000), "a\x00"} {
		p := good()
		p.Funcs[1].Name = name
		wrong(t, p, 1, 0, api.ErrName)
	}
	p := good()
	p.Funcs[2].Name = "f"
	wrong(t, p, 2, 0, api.ErrTwice)
	p = good()
	p.Funcs[2].Name, p.Funcs[1].Name = "F", "a" // classes may have a function's name
	right(t, p)
}

// P15.1: where polls must be: also in instructions that are never reached.
func TestPolls(t *testing.T) {
	for _, x := range []struct {
		text string
		pc   int
		e    api.Errno
	}{
		{"poll\nreturn", 0, api.OK},
		{"return", 0, api.ErrPoll},
		{"collect\npoll\nreturn", 0, api.ErrPoll},
		{"a:\npoll\njump a", 0, api.OK},
		{"poll\na:\njump a", 1, api.ErrPoll},
		{"poll\na:\ncollect\njump a", 2, api.ErrPoll},
		{"poll\na:\ncollect\nconst 1\njumpif a\nb:\njump b", 3, api.ErrPoll},
		{"poll\njump a\na:\nreturn", 0, api.OK},
		{"poll\nreturn\na:\njump a", 2, api.ErrPoll},
		{"poll\nreturn\na:\ncollect\nconst 1\njumpif a", 4, api.ErrPoll},
		{"poll\nreturn\na:\npoll\nconst 1\njumpif a\nadd", 0, api.OK},
		{"poll\nreturn\nconst 1\njumpif a\na:\nadd", 0, api.OK},
	} {
		p := parsed(t, "func main\n"+x.text+"\nend")
		if place, e := both(t, p); place != (verify.Place{Pc: x.pc}) || e != x.e {
			t.Errorf("%q: %+v, %d, not %d, %d", x.text, place, e, x.pc, x.e)
		}
	}
	// The polls of a function come ahead of the next one's operands, and behind all of its own.
	p := good()
	p.Funcs[1].Code[0].Op = code.Collect
	p.Funcs[2].Code[3] = api.Ins{Op: 77}
	wrong(t, p, 1, 0, api.ErrPoll)
	p.Funcs[1].Code[39] = api.Ins{Op: 77}
	wrong(t, p, 1, 39, api.ErrOp)
}
