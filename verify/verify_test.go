package verify_test

import (
	"math"
	"slices"
	"testing"

	"windrow/api"
	"windrow/asm"
	"windrow/classes"
	"windrow/code"
	"windrow/verify"
)

// parsed: the program of a text of which no line is wrong.
func parsed(t *testing.T, text string) api.Program {
	t.Helper()
	p, line, e := asm.Parse(text)
	if e != api.OK {
		t.Fatalf("Parse(%q): %d in line %d", text, e, line)
	}
	return p
}

// right: a program in which nothing is wrong, looked over.
func right(t *testing.T, p api.Program) *verify.Checked {
	t.Helper()
	c, place, e := verify.Check(p)
	if c == nil || place != (verify.Place{}) || e != api.OK {
		t.Fatalf("Check(%+v) = %v, %+v, %d", p, c, place, e)
	}
	return c
}

// wrong: does Check answer this place and this error, and nothing else?
func wrong(t *testing.T, p api.Program, fn, pc int, e api.Errno) {
	t.Helper()
	c, place, got := verify.Check(p)
	if c != nil || place != (verify.Place{Fn: fn, Pc: pc}) || got != e {
		t.Errorf("Check(%+v) = %v, %+v, %d, not {%d %d}, %d", p, c, place, got, fn, pc, e)
	}
}

// mapped: does Map answer these words?
func mapped(t *testing.T, c *verify.Checked, fn, pc int, locals, stack uint64) {
	t.Helper()
	gotLocals, gotStack, e := c.Map(fn, pc)
	if gotLocals != locals || gotStack != stack || e != api.OK {
		t.Errorf("Map(%d, %d) = %b, %b, %d, not %b, %b", fn, pc, gotLocals, gotStack, e, locals, stack)
	}
}

// longestRow: does Row answer this number?
func longestRow(t *testing.T, c *verify.Checked, fn, want int) {
	t.Helper()
	if n, e := c.Row(fn); n != want || e != api.OK {
		t.Errorf("Row(%d) = %d, %d, not %d", fn, n, e, want)
	}
}

// point: does Point answer these types?
func point(t *testing.T, c *verify.Checked, fn, pc int, locals, stack string) {
	t.Helper()
	p, e := c.Point(fn, pc)
	if !p.Reached || letters(p.Locals) != locals || letters(p.Stack) != stack || e != api.OK {
		t.Errorf("Point(%d, %d) = %+v, %d, not %q, %q", fn, pc, p, e, locals, stack)
	}
}

// P15.1: the chapter's examples.
func TestExamples(t *testing.T) {
	c := right(t, parsed(t, "func main\nlocals ref\npoll\nnull\nstore 0\nload 0\ndrop\nreturn\nend"))
	mapped(t, c, 0, 3, 1, 0)
	longestRow(t, c, 0, 5)
	wrong(t, parsed(t, "func main\nlocals ref\nnull\nstore 0\nload 0\ndrop\nreturn\nend"), 0, 0, api.ErrPoll)
	wrong(t, parsed(t, "func main\nlocals ref\npoll\nload 0\ndrop\nreturn\nend"), 0, 1, api.ErrType)
}

// sampleText: a program with several functions, loops and instructions that are never reached.
const sampleText = `
class node next:ref n:int
class pair a:ref b:ref
func main
locals ref int
  poll
  const 3
  call list
  store 0
  null
  store 0
again:
  poll
  load 0
  isnull
  jumpif done
  load 0
  get node next
  store 0
  jump again
  drop
  drop
done:
  global 7
  load 0
  spawn work
  jump over
  poll
over:
  drop
  setglobal 7
  return
end
func list int -> ref
locals int ref ref
  poll
  new node
  dup
  load 0
  put node n
  return
end
func work ref -> int
locals int
  poll
  load 0
  const 7
  store 1
  drop
  load 1
  return
end
`

// sample: its program.
func sample(t *testing.T) api.Program {
	t.Helper()
	return parsed(t, sampleText)
}

// P15.1: a program with something of everything: its points, maps, rows, functions and instructions.
func TestSample(t *testing.T) {
	p := sample(t)
	c := right(t, p)
	point(t, c, 0, 0, "--", "")
	point(t, c, 0, 2, "--", "i")
	point(t, c, 0, 3, "--", "r")
	point(t, c, 0, 4, "r-", "")
	point(t, c, 0, 6, "r-", "")
	point(t, c, 0, 9, "r-", "i")
	point(t, c, 0, 16, "r-", "")
	point(t, c, 0, 19, "r-", "ri")
	point(t, c, 0, 21, "r-", "ri")
	point(t, c, 0, 23, "r-", "")
	point(t, c, 1, 0, "i---", "")
	point(t, c, 1, 4, "i---", "rri")
	point(t, c, 1, 5, "i---", "r")
	point(t, c, 2, 4, "ri", "r")
	for _, pc := range []int{14, 15, 20} {
		if got, e := c.Point(0, pc); got.Reached || got.Locals != nil || got.Stack != nil || e != api.OK {
			t.Errorf("Point(0, %d) = %+v, %d", pc, got, e)
		}
		if locals, stack, e := c.Map(0, pc); locals != 0 || stack != 0 || e != api.ErrArg {
			t.Errorf("Map(0, %d) = %b, %b, %d", pc, locals, stack, e)
		}
	}
	mapped(t, c, 0, 0, 0, 0)
	mapped(t, c, 0, 3, 0, 1)
	mapped(t, c, 0, 18, 1, 3)
	mapped(t, c, 0, 19, 1, 1)
	mapped(t, c, 1, 4, 0, 3)
	mapped(t, c, 2, 4, 1, 1)
	longestRow(t, c, 0, 10) // 7 to 9, 16 to 19, 21 to 23; or 3 to 5 behind the call
	longestRow(t, c, 1, 5)
	longestRow(t, c, 2, 6)
	if !code.Equal(c.Program(), p) {
		t.Errorf("Program() = %+v", c.Program())
	}
	own, _, _ := classes.New(p.Classes)
	if !classes.Same(c.Table(), own) || c.Table().Count() != 2 {
		t.Error("Table()")
	}
}

// P15.1: each function and instruction, and such as there are not.
func TestFuncAndIns(t *testing.T) {
	p := sample(t)
	c := right(t, p)
	for fn, f := range p.Funcs {
		params, result, locals, e := c.Func(fn)
		if !slices.Equal(params, f.Params) || result != f.Result || locals != len(f.Params)+len(f.Locals) || e != api.OK {
			t.Errorf("Func(%d) = %v, %d, %d, %d", fn, params, result, locals, e)
		}
		for pc, i := range f.Code {
			if got, e := c.Ins(fn, pc); got != i || e != api.OK {
				t.Errorf("Ins(%d, %d) = %+v, %d", fn, pc, got, e)
			}
		}
		nothingAt(t, c, fn, -1)
		nothingAt(t, c, fn, len(f.Code))
		nothingAt(t, c, fn, 256)
		nothingAt(t, c, fn, math.MinInt)
		nothingAt(t, c, fn, math.MaxInt)
	}
	for _, fn := range []int{math.MinInt, -2, -1, 3, 4, 16, math.MaxInt} {
		nothingOf(t, c, fn)
	}
}

// nothingAt: the answers where there is no such instruction.
func nothingAt(t *testing.T, c *verify.Checked, fn, pc int) {
	t.Helper()
	if i, e := c.Ins(fn, pc); i != (api.Ins{}) || e != api.ErrArg {
		t.Errorf("Ins(%d, %d) = %+v, %d", fn, pc, i, e)
	}
	if p, e := c.Point(fn, pc); p.Reached || p.Locals != nil || p.Stack != nil || e != api.ErrArg {
		t.Errorf("Point(%d, %d) = %+v, %d", fn, pc, p, e)
	}
	if locals, stack, e := c.Map(fn, pc); locals != 0 || stack != 0 || e != api.ErrArg {
		t.Errorf("Map(%d, %d) = %b, %b, %d", fn, pc, locals, stack, e)
	}
}

// nothingOf: the answers where there is no such function.
func nothingOf(t *testing.T, c *verify.Checked, fn int) {
	t.Helper()
	for _, pc := range []int{-1, 0, 1} {
		nothingAt(t, c, fn, pc)
	}
	if params, result, locals, e := c.Func(fn); params != nil || result != 0 || locals != 0 || e != api.ErrFunc {
		t.Errorf("Func(%d) = %v, %d, %d, %d", fn, params, result, locals, e)
	}
	if n, e := c.Row(fn); n != 0 || e != api.ErrFunc {
		t.Errorf("Row(%d) = %d, %d", fn, n, e)
	}
}

// Rule 6: a nil program, and one that no call has made.
func TestNothing(t *testing.T) {
	for _, c := range []*verify.Checked{nil, {}} {
		for _, fn := range []int{-1, 0, 1, 16} {
			nothingOf(t, c, fn)
		}
		if !code.Equal(c.Program(), api.Program{}) || c.Table() != nil {
			t.Error("Program or Table of nothing")
		}
	}
}

// P15.1: Load: programs of bytes, bytes that are none, and programs that are wrong.
func TestLoad(t *testing.T) {
	p := sample(t)
	b, e := code.Encode(p)
	if e != api.OK {
		t.Fatal(e)
	}
	c, place, e := verify.Load(b)
	if e != api.OK || place != (verify.Place{}) || !code.Equal(c.Program(), p) {
		t.Fatalf("Load = %v, %+v, %d", c, place, e)
	}
	point(t, c, 0, 19, "r-", "ri")
	for _, l := range [][]byte{nil, {}, b[:3], b[:len(b)-1], append(slices.Clone(b), 0), make([]byte, 65536), make([]byte, 65537)} {
		_, at, want := code.Decode(l)
		if c, place, e := verify.Load(l); c != nil || place != (verify.Place{Fn: -2, Pc: at}) || e != want || e == api.OK {
			t.Errorf("Load of %d bytes = %v, %+v, %d, not %d, %d", len(l), c, place, e, at, want)
		}
	}
	for _, cut := range []int{1, 3, 4} {
		if c, place, e := verify.Load(b[:cut]); c != nil || place != (verify.Place{Fn: -2, Pc: cut}) || e != api.ErrEnds {
			t.Errorf("Load of %d bytes = %v, %+v, %d", cut, c, place, e)
		}
	}
	wrongs := []func(p *api.Program){
		func(p *api.Program) { p.Classes[1].Name = "node" },
		func(p *api.Program) { p.Funcs = nil },
		func(p *api.Program) { p.Funcs[2].Name = "main" },
		func(p *api.Program) { p.Funcs[1].Code[5].Op = code.Drop },
		func(p *api.Program) { p.Funcs[1].Code[3] = api.Ins{Op: code.Load, A: 4} },
	}
	for n, spoilt := range wrongs {
		p := sample(t)
		spoilt(&p)
		b, _ := code.Encode(p)
		_, want, wantE := verify.Check(p)
		if c, place, e := verify.Load(b); c != nil || place != want || e != wantE || e == api.OK {
			t.Errorf("%d: Load = %v, %+v, %d, not %+v, %d", n, c, place, e, want, wantE)
		}
	}
}

// spoil changes all that a program's lists hold.
func spoil(p api.Program) {
	for i, c := range p.Classes {
		for j := range c.Fields {
			c.Fields[j] = api.Field{Name: "spoilt", Type: 77}
		}
		p.Classes[i] = api.Class{Name: "spoilt"}
	}
	for i, f := range p.Funcs {
		spoilInts(f.Params)
		spoilInts(f.Locals)
		for j := range f.Code {
			f.Code[j] = api.Ins{Op: 77, A: 77, B: 77}
		}
		p.Funcs[i] = api.Func{Name: "spoilt", Result: 77}
	}
}

// spoilInts also spoils what lies behind the list's end.
func spoilInts(l []int) {
	l = l[:cap(l)]
	for i := range l {
		l[i] = 77
	}
}

// roomy: the same list, with noughts behind its end.
func roomy[T any](l []T) []T {
	return append(make([]T, 0, len(l)+9), l...)
}

// isEmpty: are there only zero values behind a list's end?
func isEmpty[T comparable](l []T) bool {
	var zero T
	for _, x := range l[len(l):cap(l)] {
		if x != zero {
			return false
		}
	}
	return true
}

// P15.3: what Check is given stays as it is, also behind its lists' ends, and is not kept.
func TestArgumentsStay(t *testing.T) {
	want := sample(t)
	given := sample(t)
	for fn := range given.Funcs {
		f := &given.Funcs[fn]
		f.Params, f.Locals, f.Code = roomy(f.Params), roomy(f.Locals), roomy(f.Code)
	}
	for i := range given.Classes {
		given.Classes[i].Fields = roomy(given.Classes[i].Fields)
	}
	c := right(t, given)
	if !code.Equal(given, want) {
		t.Errorf("changed to %+v", given)
	}
	for _, f := range given.Funcs {
		if !isEmpty(f.Params) || !isEmpty(f.Locals) || !isEmpty(f.Code) {
			t.Errorf("changed behind the ends: %+v", f)
		}
	}
	spoil(given)
	same(t, c, want)

	b, _ := code.Encode(want)
	bytes := slices.Clone(b)
	c, _, _ = verify.Load(bytes)
	if !slices.Equal(b, bytes) {
		t.Error("Load changed the bytes")
	}
	clear(bytes)
	same(t, c, want)
}

// same: does a checked program answer as one of p does?
func same(t *testing.T, c *verify.Checked, p api.Program) {
	t.Helper()
	if !code.Equal(c.Program(), p) {
		t.Errorf("Program() = %+v, not %+v", c.Program(), p)
	}
	own, _, _ := classes.New(p.Classes)
	if !classes.Same(c.Table(), own) {
		t.Error("Table() has other classes")
	}
	m, place, e := check(p)
	if e != api.OK {
		t.Fatal(place, e)
	}
	compare(t, c, m)
}

// P15.3: what is answered may be changed, and what is asked for next stays as it is.
func TestAnswersApart(t *testing.T) {
	p := sample(t)
	c := right(t, p)
	for range 2 {
		spoil(c.Program())
		class, _ := c.Table().Class(0)
		clear(class.Fields)
		for fn, f := range p.Funcs {
			params, _, _, _ := c.Func(fn)
			spoilInts(params)
			for pc := range f.Code {
				x, _ := c.Point(fn, pc)
				y, _ := c.Point(fn, pc)
				spoilInts(x.Locals)
				spoilInts(x.Stack)
				if slices.Contains(y.Locals, 77) || slices.Contains(y.Stack, 77) {
					t.Errorf("two points at %d %d share memory", fn, pc)
				}
				spoilInts(y.Stack)
				if slices.Contains(y.Locals, 77) {
					t.Errorf("the lists of the point at %d %d share memory", fn, pc)
				}
			}
		}
		same(t, c, p)
	}
}
