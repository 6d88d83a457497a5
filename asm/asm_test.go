package asm_test

import (
	"math"
	"slices"
	"strconv"
	"strings"
	"testing"

	"windrow/api"
	"windrow/asm"
	"windrow/code"
)

// parsed: the program of a text of which no line is wrong.
func parsed(t *testing.T, text string) api.Program {
	t.Helper()
	p, line, e := asm.Parse(text)
	if line != 0 || e != api.OK {
		t.Fatalf("Parse(%q) = %+v, %d, %d", text, p, line, e)
	}
	return p
}

// printed: the text of a program that has one.
func printed(t *testing.T, p api.Program) string {
	t.Helper()
	text, e := asm.Print(p)
	if e != api.OK {
		t.Fatalf("Print(%+v) = %q, %d", p, text, e)
	}
	return text
}

// refused: does Parse answer this line and this error, and nothing else?
func refused(t *testing.T, text string, line int, e api.Errno) {
	t.Helper()
	p, gotLine, gotE := asm.Parse(text)
	if !code.Equal(p, api.Program{}) || gotLine != line || gotE != e {
		t.Errorf("Parse(%q) = %+v, %d, %d, not %d, %d", text, p, gotLine, gotE, line, e)
	}
}

func TestExamples(t *testing.T) {
	text := "class a n:int\nfunc main\n  poll\n  new a\n  drop\n  return\nend\n"
	if got := printed(t, parsed(t, text)); got != text {
		t.Errorf("printed as %q", got)
	}
	refused(t, "func main\n jump x\nend", 2, api.ErrLabel)
	refused(t, "func main", 2, api.ErrSyntax)
}

// wholeText: a text with something of everything, as Print has it.
const wholeText = `class node next:ref n:int
class a
class b x:ref
func main
L0:
  poll
  const -9223372036854775808
  const 9223372036854775807
  const 0
  null
  load 0
  store 2147483647
  dup
  drop
  swap
  add
  sub
  mul
  div
  rem
  neg
  eq
  less
  same
  isnull
L20:
  jump L45
  jumpif L0
  jumpif L20
  call f
  return
  new b
  newints
  newrefs
  get node n
  put b x
  cas node next
  len
  intat
  setint
  refat
  setref
  global 7
  setglobal 8
  spawn main
  join
  out
  poll
  collect
  get node next
  spawn g
L45:
end
func f int ref int ref int ref -> ref
locals ref int
end
func g -> int
locals int
  call g
end
func h ref
end
`

// wholeProgram: its program.
func wholeProgram() api.Program {
	main := []api.Ins{
		{Op: code.Poll}, {Op: code.Const, A: math.MinInt64}, {Op: code.Const, A: math.MaxInt64}, {Op: code.Const}, {Op: code.Null},
		{Op: code.Load}, {Op: code.Store, A: 2147483647}, {Op: code.Dup}, {Op: code.Drop}, {Op: code.Swap},
		{Op: code.Add}, {Op: code.Sub}, {Op: code.Mul}, {Op: code.Div}, {Op: code.Rem}, {Op: code.Neg}, {Op: code.Eq}, {Op: code.Less}, {Op: code.Same}, {Op: code.IsNull},
		{Op: code.Jump, A: 45}, {Op: code.JumpIf}, {Op: code.JumpIf, A: 20}, {Op: code.Call, A: 1}, {Op: code.Return},
		{Op: code.New, A: 2}, {Op: code.NewInts}, {Op: code.NewRefs}, {Op: code.Get, B: 1}, {Op: code.Put, A: 2}, {Op: code.Cas},
		{Op: code.Len}, {Op: code.IntAt}, {Op: code.SetInt}, {Op: code.RefAt}, {Op: code.SetRef}, {Op: code.Global, A: 7}, {Op: code.SetGlobal, A: 8},
		{Op: code.Spawn}, {Op: code.Join}, {Op: code.Out}, {Op: code.Poll}, {Op: code.Collect}, {Op: code.Get}, {Op: code.Spawn, A: 2},
	}
	return api.Program{
		Classes: []api.Class{
			{Name: "node", Fields: []api.Field{{Name: "next", Type: api.Ref}, {Name: "n", Type: api.Int}}},
			{Name: "a"},
			{Name: "b", Fields: []api.Field{{Name: "x", Type: api.Ref}}},
		},
		Funcs: []api.Func{
			{Name: "main", Code: main},
			{Name: "f", Params: []int{1, 2, 1, 2, 1, 2}, Result: api.Ref, Locals: []int{2, 1}},
			{Name: "g", Result: api.Int, Locals: []int{1}, Code: []api.Ins{{Op: code.Call, A: 2}}},
			{Name: "h", Params: []int{2}},
		},
	}
}

// P14.1: everything that a text may have, one way and the other.
func TestWhole(t *testing.T) {
	if p := parsed(t, wholeText); !code.Equal(p, wholeProgram()) {
		t.Errorf("parsed as %+v", p)
	}
	if text := printed(t, wholeProgram()); text != wholeText {
		t.Errorf("printed as %q", text)
	}
	if text := printed(t, api.Program{}); text != "" {
		t.Errorf("no program is printed as %q", text)
	}
	if p := parsed(t, ""); !code.Equal(p, api.Program{}) {
		t.Errorf("no text is parsed as %+v", p)
	}
}

// seed makes numbers without a pattern, the same in each run.
type seed uint64

func (s *seed) next() uint64 {
	x := *s
	x ^= x << 13
	x ^= x >> 7
	x ^= x << 17
	*s = x
	return uint64(x)
}

func (s *seed) below(n int) int { return int(s.next() % uint64(n)) }

// count: one up to the greatest, which is rather frequent, as is 0.
func (s *seed) count(most int) int {
	switch s.below(6) {
	case 0:
		return most
	case 1:
		return 0
	}
	return s.below(most + 1)
}

// someNames: names, among them such as stand for something else in other places.
func someNames() []string {
	return []string{
		"class", "func", "locals", "end", "int", "ref", "jump", "add", "const", "L0", "L1", "L2", "L256", "a", "b", "c", "A", "x_", "n1", "main",
		"abcdefghijklmnop", "Z99999999999999_", "poll", "e", "f", "g",
	}
}

// names: so many different ones.
func (s *seed) names(n int) []string {
	l := someNames()
	for k := range l {
		other := k + s.below(len(l)-k)
		l[k], l[other] = l[other], l[k]
	}
	return l[:n]
}

func (s *seed) types(most int) []int {
	var l []int
	for range s.count(most) {
		l = append(l, 1+s.below(2))
	}
	return l
}

// instruction: one that a function of so many instructions may have.
func (s *seed) instruction(p api.Program, size int) api.Ins {
	for {
		i := api.Ins{Op: 1 + s.below(code.Ops)}
		switch i.Op {
		case code.Const:
			i.A = int64(s.next()) >> s.below(64)
		case code.Load, code.Store, code.Global, code.SetGlobal:
			i.A = int64(s.next() % (1 << (1 + s.below(31))))
		case code.Jump, code.JumpIf:
			i.A = int64(s.below(size + 1))
		case code.Call, code.Spawn:
			i.A = int64(s.below(len(p.Funcs)))
		case code.New, code.Get, code.Put, code.Cas:
			if len(p.Classes) == 0 {
				continue
			}
			i.A = int64(s.below(len(p.Classes)))
			if fields := p.Classes[i.A].Fields; i.Op != code.New && len(fields) == 0 {
				continue
			} else if i.Op != code.New {
				i.B = int64(s.below(len(fields)))
			}
		}
		return i
	}
}

// program: one that has a text.
func (s *seed) program() api.Program {
	var p api.Program
	for _, name := range s.names(s.count(4 * (1 + 3*s.below(2)))) {
		c := api.Class{Name: name}
		for _, field := range s.names(s.count(3 * (1 + 4*s.below(2)))) {
			c.Fields = append(c.Fields, api.Field{Name: field, Type: 1 + s.below(2)})
		}
		p.Classes = append(p.Classes, c)
	}
	for _, name := range s.names(s.count(2 * (1 + 7*s.below(2)))) {
		p.Funcs = append(p.Funcs, api.Func{Name: name, Params: s.types(6), Result: s.below(3), Locals: s.types(16)})
	}
	for k := range p.Funcs {
		size := s.count(256 >> s.below(8))
		for range size {
			p.Funcs[k].Code = append(p.Funcs[k].Code, s.instruction(p, size))
		}
	}
	return p
}

// P14.2: many programs, printed and parsed; each text is that of the chapter's words.
func TestThereAndBack(t *testing.T) {
	random := seed(88172645463325252)
	long := 0
	for range 1500 {
		p := random.program()
		want := textOf(p)
		text, e := asm.Print(p)
		if len(want) > 65536 {
			long++
			if text != "" || e != api.ErrBig {
				t.Fatalf("a text of %d bytes: %q, %d", len(want), text, e)
			}
			continue
		}
		if text != want || e != api.OK {
			t.Fatalf("Print(%+v) = %q, %d, not %q", p, text, e, want)
		}
		if back := parsed(t, text); !code.Equal(back, p) {
			t.Fatalf("Parse(%q) = %+v, not %+v", text, back, p)
		}
	}
	if long == 1500 {
		t.Error("all texts were too long")
	}
}

// textOf: a program's text by the chapter's words.
func textOf(p api.Program) string {
	var b strings.Builder
	types := []string{"", " int", " ref"}
	for _, c := range p.Classes {
		b.WriteString("class " + c.Name)
		for _, f := range c.Fields {
			b.WriteString(" " + f.Name + ":" + types[f.Type][1:])
		}
		b.WriteString("\n")
	}
	for _, f := range p.Funcs {
		b.WriteString("func " + f.Name)
		for _, k := range f.Params {
			b.WriteString(types[k])
		}
		if f.Result != 0 {
			b.WriteString(" ->" + types[f.Result])
		}
		b.WriteString("\n")
		for n, k := range f.Locals {
			if n == 0 {
				b.WriteString("locals")
			}
			b.WriteString(types[k])
			if n == len(f.Locals)-1 {
				b.WriteString("\n")
			}
		}
		for at := range len(f.Code) + 1 {
			refers := func(i api.Ins) bool {
				return (i.Op == code.Jump || i.Op == code.JumpIf) && i.A == int64(at)
			}
			if slices.ContainsFunc(f.Code, refers) {
				b.WriteString("L" + strconv.Itoa(at) + ":\n")
			}
			if at < len(f.Code) {
				b.WriteString("  " + wordsOf(p, f.Code[at]) + "\n")
			}
		}
		b.WriteString("end\n")
	}
	return b.String()
}

// wordsOf: those of an instruction.
func wordsOf(p api.Program, i api.Ins) string {
	name := code.Name(i.Op)
	switch name {
	case "const", "load", "store", "global", "setglobal":
		return name + " " + strconv.FormatInt(i.A, 10)
	case "jump", "jumpif":
		return name + " L" + strconv.FormatInt(i.A, 10)
	case "call", "spawn":
		return name + " " + p.Funcs[i.A].Name
	case "new":
		return name + " " + p.Classes[i.A].Name
	case "get", "put", "cas":
		return name + " " + p.Classes[i.A].Name + " " + p.Classes[i.A].Fields[i.B].Name
	}
	return name
}

// P14.3: a text means the same with comments, more white space and empty lines, and its wrong lines move along.
func TestLayout(t *testing.T) {
	random := seed(7046029254386353087)
	spaces := func() string {
		return strings.Repeat([]string{" ", "\t", " \t", "  "}[random.below(4)], 1+random.below(3))
	}
	comment := func() string {
		return []string{";", "; end", ";;x:;", ";\tclass a\x00\xff\r", ";é\"", " ;", "\t; a;b"}[random.below(7)]
	}
	for range 600 {
		p := random.program()
		text := textOf(p)
		if len(text) > 20000 {
			continue
		}
		text = strings.TrimSuffix(text, "\n")
		wrongAt := -1
		if random.below(2) == 0 {
			text += "\nend"
			wrongAt = strings.Count(text, "\n")
		}
		var lines []string
		for at, line := range strings.Split(text, "\n") {
			for random.below(4) == 0 {
				lines = append(lines, []string{"", spaces(), comment(), spaces() + comment()}[random.below(4)])
			}
			line = strings.Join(strings.Fields(line), spaces())
			if random.below(2) == 0 {
				line = spaces() + line + spaces()
			}
			if random.below(3) == 0 {
				line += comment()
			}
			lines = append(lines, line)
			if at == wrongAt {
				wrongAt = len(lines)
				break
			}
		}
		other := strings.Join(lines, "\n")
		if wrongAt >= 0 {
			refused(t, other, wrongAt, api.ErrSyntax)
			continue
		}
		if got := parsed(t, other); !code.Equal(got, p) {
			t.Fatalf("Parse(%q) = %+v, not %+v", other, got, p)
		}
	}
}
