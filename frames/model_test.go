package frames_test

import (
	"reflect"
	"slices"
	"strings"
	"testing"

	"windrow/api"
	"windrow/code"
	"windrow/frames"
	"windrow/verify"
)

// line is one of the table of chapter 17, with the types of chapter 15: i and r are types, f is that of the field, d the
// declared type of the local, l the one that it has, p the parameters and o the result of the function that is called, x
// the own one's result; 1 and 2 are any. Of what is needed, a, b and c are the values, A and B the operands, * all values,
// L how many fields the class has, F the type of the field.
type line struct {
	takes, puts string
	kind        int
	fields      string
}

func chapter() map[string]line {
	array := "Ref=a Index=b "
	field := "Object=1 Class=A Ref=a Index=B "
	return map[string]line{
		"const": {puts: "i"}, "null": {puts: "r"},
		"load": {puts: "l"}, "store": {takes: "d"},
		"dup": {takes: "1", puts: "11"}, "drop": {takes: "1"}, "swap": {takes: "12", puts: "21"},
		"add": {takes: "ii", puts: "i"}, "sub": {takes: "ii", puts: "i"}, "mul": {takes: "ii", puts: "i"}, "div": {takes: "ii", puts: "i"}, "rem": {takes: "ii", puts: "i"},
		"eq": {takes: "ii", puts: "i"}, "less": {takes: "ii", puts: "i"}, "same": {takes: "rr", puts: "i"},
		"neg": {takes: "i", puts: "i"}, "isnull": {takes: "r", puts: "i"},
		"jump": {}, "jumpif": {takes: "i"},
		"call": {takes: "p", puts: "o"}, "return": {takes: "x"},
		"poll": {kind: frames.Stop}, "collect": {kind: frames.Gather},
		"out":       {takes: "i", kind: frames.Tell, fields: "V=a"},
		"join":      {takes: "i", puts: "i", kind: frames.Await, fields: "Index=a Type=1"},
		"spawn":     {takes: "p", puts: "i", kind: frames.Begin, fields: "Callee=A Args=* Type=1"},
		"global":    {puts: "r", kind: frames.ReadRoot, fields: "Index=A Type=2"},
		"setglobal": {takes: "r", kind: frames.WriteRoot, fields: "Index=A V=a"},
		"new":       {puts: "r", kind: frames.Make, fields: "Class=A Object=1 Len=L Type=2"},
		"newints":   {takes: "i", puts: "r", kind: frames.Make, fields: "Object=2 Len=a Type=2"},
		"newrefs":   {takes: "i", puts: "r", kind: frames.Make, fields: "Object=3 Len=a Type=2"},
		"get":       {takes: "r", puts: "f", kind: frames.Read, fields: field + "Type=F"},
		"put":       {takes: "rf", kind: frames.Write, fields: field + "V=b"},
		"cas":       {takes: "rff", puts: "i", kind: frames.Change, fields: field + "Expect=b V=c Type=1"},
		"len":       {takes: "r", puts: "i", kind: frames.Length, fields: "Ref=a Type=1"},
		"intat":     {takes: "ri", puts: "i", kind: frames.Read, fields: array + "Object=2 Type=1"},
		"refat":     {takes: "ri", puts: "r", kind: frames.Read, fields: array + "Object=3 Type=2"},
		"setint":    {takes: "rii", kind: frames.Write, fields: array + "Object=2 V=c"},
		"setref":    {takes: "rir", kind: frames.Write, fields: array + "Object=3 V=c"},
	}
}

// model is a thread by the chapter's words.
type model struct {
	p     api.Program
	lines map[string]line
	api.Thread
}

func newModel(p api.Program, fn int, args []api.Value) *model {
	m := &model{p: p, lines: chapter()}
	m.Status = api.Running
	m.begin(fn, args)
	return m
}

func (m *model) begin(fn int, args []api.Value) {
	locals := append(slices.Clone(args), make([]api.Value, len(m.p.Funcs[fn].Locals))...)
	m.Frames = append(m.Frames, api.Frame{Fn: fn, Locals: locals})
}

func (m *model) last() *api.Frame { return &m.Frames[len(m.Frames)-1] }

// next: the next instruction, its name, and the values that it takes.
func (m *model) next() (api.Ins, string, []api.Value) {
	f := m.last()
	i := m.p.Funcs[f.Fn].Code[f.Pc]
	name := code.Name(i.Op)
	n := len(m.lines[name].takes)
	switch m.lines[name].takes {
	case "p":
		n = len(m.p.Funcs[i.A].Params)
	case "x":
		n = min(m.p.Funcs[f.Fn].Result, 1)
	}
	return i, name, slices.Clone(f.Stack[len(f.Stack)-n:])
}

// fault: the trap of the next instruction, or 0.
func (m *model) fault() int {
	_, name, v := m.next()
	row := m.lines[name]
	switch {
	case (name == "div" || name == "rem") && v[1].N == 0:
		return api.TrapZero
	case name == "call" && len(m.Frames) == 12:
		return api.TrapFrames
	case strings.HasPrefix(name, "new") && len(v) > 0 && (v[0].N < 0 || v[0].N > 255):
		return api.TrapSize
	case strings.Contains(row.fields, "Ref=a") && v[0].N == 0:
		return api.TrapNull
	}
	return 0
}

// want: what the next instruction needs.
func (m *model) want() frames.Want {
	i, name, v := m.next()
	row := m.lines[name]
	w := frames.Want{Kind: row.kind, Op: i.Op, Fn: m.last().Fn, Pc: m.last().Pc}
	if trap := m.fault(); trap != 0 {
		w.Kind, w.Trap = frames.Fault, trap
		return w
	}
	if name == "return" && len(m.Frames) == 1 {
		w.Kind, w.V = frames.End, number(0)
		if len(v) > 0 {
			w.V = v[0]
		}
	}
	for _, s := range strings.Fields(row.fields) {
		field, what, _ := strings.Cut(s, "=")
		m.set(reflect.ValueOf(&w).Elem().FieldByName(field), what, i, v)
	}
	return w
}

// set sets a field of a want.
func (m *model) set(field reflect.Value, what string, i api.Ins, v []api.Value) {
	n := strings.Index("abc", what)
	switch {
	case what == "*":
		field.Set(reflect.ValueOf(v))
	case n >= 0 && field.Kind() == reflect.Struct:
		field.Set(reflect.ValueOf(v[n]))
	case n >= 0:
		field.SetInt(v[n].N)
	case what == "A":
		field.SetInt(i.A)
	case what == "B":
		field.SetInt(i.B)
	case what == "L":
		field.SetInt(int64(len(m.p.Classes[i.A].Fields)))
	case what == "F":
		field.SetInt(int64(m.p.Classes[i.A].Fields[i.B].Type))
	default:
		field.SetInt(int64(what[0] - '0'))
	}
}

// done: the next instruction is performed.
func (m *model) done(answer api.Value) {
	i, name, v := m.next()
	w := m.want()
	switch w.Kind {
	case frames.Fault:
		m.Thread = api.Thread{Status: api.Trapped, Trap: w.Trap}
		return
	case frames.End:
		m.Thread = api.Thread{Status: api.Ended, Result: w.V.N}
		return
	}
	f := m.last()
	f.Stack = f.Stack[:len(f.Stack)-len(v)]
	f.Pc++
	switch name {
	case "call":
		m.begin(int(i.A), v)
	case "return":
		m.Frames = m.Frames[:len(m.Frames)-1]
		m.last().Stack = append(m.last().Stack, v...)
	case "jump":
		f.Pc = int(i.A)
	case "jumpif":
		if v[0] != number(0) {
			f.Pc = int(i.A)
		}
	case "store":
		f.Locals[i.A] = v[0]
	default:
		f.Stack = append(f.Stack, m.puts(i, name, v, answer)...)
	}
}

// puts: what an instruction puts.
func (m *model) puts(i api.Ins, name string, v []api.Value, answer api.Value) []api.Value {
	if m.lines[name].kind != frames.Inner {
		return slices.Repeat([]api.Value{answer}, min(1, answer.Type))
	}
	switch name {
	case "const":
		return []api.Value{number(i.A)}
	case "null":
		return []api.Value{ref(0)}
	case "load":
		return []api.Value{m.last().Locals[i.A]}
	case "dup":
		return []api.Value{v[0], v[0]}
	case "drop":
		return nil
	case "swap":
		return []api.Value{v[1], v[0]}
	case "neg", "isnull":
		return []api.Value{number(reckoned(name, v[0].N, 0))}
	}
	return []api.Value{number(reckoned(name, v[0].N, v[1].N))}
}

// places: the types of a frame's locals and values that chapter 15 knows: ahead of its next instruction, or of its call.
func places(t *testing.T, c *verify.Checked, f api.Frame, waits bool) ([]int, []int) {
	t.Helper()
	pc := f.Pc
	if waits {
		pc--
	}
	point, e := c.Point(f.Fn, pc)
	if e != api.OK || !point.Reached || !waits && len(point.Stack) != len(f.Stack) {
		t.Fatalf("Point(%d, %d) = %+v, %d for %+v", f.Fn, pc, point, e, f)
	}
	return point.Locals, point.Stack[:len(f.Stack)]
}

// roots: the references that may be used, by the points; what may be used has the type that it must have.
func (m *model) roots(t *testing.T, c *verify.Checked) []int64 {
	t.Helper()
	var l []int64
	for n, f := range m.Frames {
		locals, stack := places(t, c, f, n < len(m.Frames)-1)
		kinds := slices.Concat(locals, stack)
		for i, v := range slices.Concat(f.Locals, f.Stack) {
			if kinds[i] != api.None && v.Type != kinds[i] {
				t.Fatalf("value %d of %+v isn't of type %d", i, f, kinds[i])
			}
			if kinds[i] == api.Ref {
				l = append(l, v.N)
			}
		}
	}
	return l
}
