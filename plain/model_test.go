package plain_test

import (
	"math/big"
	"slices"
	"strings"
	"testing"

	"windrow/api"
	"windrow/code"
	"windrow/plain"
	"windrow/verify"
)

// model is a machine by the words of chapters 17 and 18.
type model struct {
	p       api.Program
	most    int
	threads []api.Thread
	globals []int64
	cells   []api.Cell
	outputs []api.Output
	picks   int
}

func newModel(p api.Program, most int) *model {
	m := &model{p: p, most: most, globals: make([]int64, 8)}
	m.begin(0, nil)
	return m
}

// frame in which a function begins.
func (m *model) frame(fn int, args []api.Value) api.Frame {
	return api.Frame{Fn: fn, Locals: slices.Concat(args, make([]api.Value, len(m.p.Funcs[fn].Locals)))}
}

func (m *model) begin(fn int, args []api.Value) {
	m.threads = append(m.threads, api.Thread{Status: api.Running, Frames: []api.Frame{m.frame(fn, args)}})
}

func (m *model) over() bool {
	return !slices.ContainsFunc(m.threads, func(t api.Thread) bool { return t.Status == api.Running })
}

// do is a pick.
func (m *model) do(i int, memory bool) (api.Event, bool) {
	event := api.Event{Thread: i, At: m.picks}
	m.picks++
	if i < 0 || i >= len(m.threads) || m.threads[i].Status != api.Running {
		return api.Event{}, false
	}
	f := m.last(i)
	ins := m.p.Funcs[f.Fn].Code[f.Pc]
	event.Fn, event.Pc, event.Op = f.Fn, f.Pc, ins.Op
	if code.Name(ins.Op) == "join" && m.joins(m.top(i, 1)[0].N) {
		return api.Event{}, false
	}
	made := len(m.cells)
	event.Trap = m.perform(i, ins, memory)
	if event.Trap != 0 {
		m.threads[i] = api.Thread{Status: api.Trapped, Trap: event.Trap}
	}
	if len(m.cells) > made {
		event.Addr = int64(len(m.cells))
	}
	return event, true
}

// joins: must be waited for this thread?
func (m *model) joins(n int64) bool {
	return n >= 0 && n < int64(len(m.threads)) && m.threads[n].Status == api.Running
}

func (m *model) last(i int) *api.Frame {
	l := m.threads[i].Frames
	return &l[len(l)-1]
}

// top: a copy of the last n values.
func (m *model) top(i, n int) []api.Value {
	l := m.last(i).Stack
	return slices.Clone(l[len(l)-n:])
}

func (m *model) take(i, n int) []api.Value {
	v, f := m.top(i, n), m.last(i)
	f.Stack = f.Stack[:len(f.Stack)-n]
	return v
}

func (m *model) put(i, kind int, n int64) {
	m.last(i).Stack = append(m.last(i).Stack, api.Value{Type: kind, N: n})
}

// perform: an instruction that can be done takes effect; the trap, or 0.
func (m *model) perform(i int, ins api.Ins, memory bool) int {
	f := m.last(i)
	f.Pc++
	switch name := code.Name(ins.Op); name {
	case "poll", "collect":
	case "const":
		m.put(i, api.Int, ins.A)
	case "null":
		m.put(i, api.Ref, 0)
	case "load":
		f.Stack = append(f.Stack, f.Locals[ins.A])
	case "store":
		f.Locals[ins.A] = m.take(i, 1)[0]
	case "dup":
		f.Stack = append(f.Stack, m.top(i, 1)...)
	case "drop":
		m.take(i, 1)
	case "swap":
		v := m.take(i, 2)
		f.Stack = append(f.Stack, v[1], v[0])
	case "jump":
		f.Pc = int(ins.A)
	case "jumpif":
		if m.take(i, 1)[0].N != 0 {
			f.Pc = int(ins.A)
		}
	case "call", "return", "spawn", "join":
		return m.pass(i, name, ins)
	case "out":
		if len(m.outputs) == 4096 {
			return api.TrapOutputs
		}
		m.outputs = append(m.outputs, api.Output{Thread: i, N: m.take(i, 1)[0].N})
	case "global":
		m.put(i, api.Ref, m.globals[ins.A])
	case "setglobal":
		m.globals[ins.A] = m.take(i, 1)[0].N
	case "new", "newints", "newrefs":
		return m.make(i, name, ins, memory)
	case "get", "put", "cas", "len", "intat", "setint", "refat", "setref":
		return m.word(i, name, ins)
	default:
		return m.reckon(i, name)
	}
	return 0
}

// pass: the instructions by which frames and threads begin and end.
func (m *model) pass(i int, name string, ins api.Ins) int {
	callee := m.p.Funcs[max(0, min(int(ins.A), len(m.p.Funcs)-1))]
	switch name {
	case "call":
		if len(m.threads[i].Frames) == 12 {
			return api.TrapFrames
		}
		args := m.take(i, len(callee.Params))
		m.threads[i].Frames = append(m.threads[i].Frames, m.frame(int(ins.A), args))
	case "return":
		v := m.take(i, min(1, m.p.Funcs[m.last(i).Fn].Result))
		l := m.threads[i].Frames
		if len(l) == 1 {
			m.threads[i] = api.Thread{Status: api.Ended}
			for _, x := range v {
				m.threads[i].Result = x.N
			}
			return 0
		}
		m.threads[i].Frames = l[:len(l)-1]
		m.last(i).Stack = append(m.last(i).Stack, v...)
	case "spawn":
		if len(m.threads) >= m.most {
			return api.TrapThreads
		}
		args := m.take(i, len(callee.Params))
		m.put(i, api.Int, int64(len(m.threads)))
		m.begin(int(ins.A), args)
	case "join":
		n := m.take(i, 1)[0].N
		if n < 0 || n >= int64(len(m.threads)) {
			return api.TrapJoin
		}
		m.put(i, api.Int, m.threads[n].Result)
	}
	return 0
}

// make: the instructions that make an object.
func (m *model) make(i int, name string, ins api.Ins, memory bool) int {
	c := api.Cell{Addr: int64(len(m.cells)) + 1, Kind: api.Fields}
	if name == "new" {
		c.Class, c.Words = int(ins.A), make([]int64, len(m.p.Classes[ins.A].Fields))
	} else {
		n := m.take(i, 1)[0].N
		if n < 0 || n > 255 {
			return api.TrapSize
		}
		c.Kind, c.Words = api.Ints, make([]int64, n)
	}
	if name == "newrefs" {
		c.Kind = api.Refs
	}
	if !memory {
		return api.TrapMemory
	}
	m.cells = append(m.cells, c)
	m.put(i, api.Ref, c.Addr)
	return 0
}

// word: the instructions for the words of objects.
func (m *model) word(i int, name string, ins api.Ins) int {
	takes := map[string]int{"get": 1, "put": 2, "cas": 3, "len": 1, "intat": 2, "setint": 3, "refat": 2, "setref": 3}
	v := m.take(i, takes[name])
	if v[0].N == 0 {
		return api.TrapNull
	}
	c := m.cells[v[0].N-1]
	if name == "len" {
		if c.Kind != api.Ints && c.Kind != api.Refs {
			return api.TrapClass
		}
		m.put(i, api.Int, int64(len(c.Words)))
		return 0
	}
	if strings.HasSuffix(name, "at") || strings.HasPrefix(name, "set") {
		return m.place(i, name, c, v)
	}
	if c.Kind != api.Fields || c.Class != int(ins.A) {
		return api.TrapClass
	}
	switch name {
	case "get":
		m.put(i, m.p.Classes[ins.A].Fields[ins.B].Type, c.Words[ins.B])
	case "put":
		c.Words[ins.B] = v[1].N
	case "cas":
		was := c.Words[ins.B] == v[1].N
		if was {
			c.Words[ins.B] = v[2].N
		}
		m.put(i, api.Int, told(was))
	}
	return 0
}

// place: the instructions for the words of arrays.
func (m *model) place(i int, name string, c api.Cell, v []api.Value) int {
	kinds := map[string]int{"intat": api.Ints, "setint": api.Ints, "refat": api.Refs, "setref": api.Refs}
	if c.Kind != kinds[name] {
		return api.TrapClass
	}
	if v[1].N < 0 || v[1].N >= int64(len(c.Words)) {
		return api.TrapBounds
	}
	switch name {
	case "intat":
		m.put(i, api.Int, c.Words[v[1].N])
	case "refat":
		m.put(i, api.Ref, c.Words[v[1].N])
	default:
		c.Words[v[1].N] = v[2].N
	}
	return 0
}

// told: 1 for what is so, else 0.
func told(b bool) int64 {
	if b {
		return 1
	}
	return 0
}

// reckon: the instructions that make a number of one value or of two.
func (m *model) reckon(i int, name string) int {
	takes := 2
	if name == "neg" || name == "isnull" {
		takes = 1
	}
	v := append(m.take(i, takes), api.Value{})
	if v[1].N == 0 && (name == "div" || name == "rem") {
		return api.TrapZero
	}
	x, y, z := big.NewInt(v[0].N), big.NewInt(v[1].N), new(big.Int)
	switch name {
	case "add":
		z.Add(x, y)
	case "sub":
		z.Sub(x, y)
	case "mul":
		z.Mul(x, y)
	case "div":
		z.Quo(x, y)
	case "rem":
		z.Rem(x, y)
	case "neg":
		z.Neg(x)
	case "eq", "same", "isnull":
		z.SetInt64(told(x.Cmp(y) == 0))
	case "less":
		z.SetInt64(told(x.Cmp(y) < 0))
	default:
		panic(name)
	}
	m.put(i, api.Int, int64(new(big.Int).And(z, new(big.Int).SetUint64(1<<64-1)).Uint64()))
	return 0
}

// roots: the globals, then the references of all threads that may be used, by verify's points.
func (m *model) roots(t *testing.T, c *verify.Checked) []int64 {
	t.Helper()
	l := slices.Clone(m.globals)
	for _, th := range m.threads {
		for n, f := range th.Frames {
			pc := f.Pc
			if n < len(th.Frames)-1 {
				pc-- // its call
			}
			point, e := c.Point(f.Fn, pc)
			if e != api.OK || !point.Reached {
				t.Fatalf("Point(%d, %d) = %+v, %d", f.Fn, pc, point, e)
			}
			for i, v := range f.Locals {
				if point.Locals[i] == api.Ref {
					l = append(l, v.N)
				}
			}
			for i, v := range f.Stack {
				if point.Stack[i] == api.Ref {
					l = append(l, v.N)
				}
			}
		}
	}
	return l
}

// hold: is a machine what the model is, by all calls that tell it?
func hold(t *testing.T, c *verify.Checked, m *plain.Machine, want *model) {
	t.Helper()
	if m.Count() != len(want.threads) || m.Picks() != want.picks || m.Over() != want.over() {
		t.Fatalf("%d threads, %d picks, over %v, not %d, %d, %v", m.Count(), m.Picks(), m.Over(), len(want.threads), want.picks, want.over())
	}
	for i, th := range want.threads {
		if got, e := m.Thread(i); !sameThread(got, th) || e != api.OK {
			t.Fatalf("Thread(%d) = %+v, %d, not %+v", i, got, e, th)
		}
	}
	for _, i := range []int{-1, len(want.threads)} {
		if got, e := m.Thread(i); !sameThread(got, api.Thread{}) || e != api.ErrArg {
			t.Fatalf("Thread(%d) = %+v, %d", i, got, e)
		}
	}
	if got := m.Outputs(); !slices.Equal(got, want.outputs) {
		t.Fatalf("Outputs = %v, not %v", got, want.outputs)
	}
	if got := m.Globals(); !slices.Equal(got, want.globals) {
		t.Fatalf("Globals = %v, not %v", got, want.globals)
	}
	if got := m.Cells(); !sameCells(got, want.cells) {
		t.Fatalf("Cells = %+v, not %+v", got, want.cells)
	}
	x, roots := m.Image(), want.roots(t, c)
	if !slices.Equal(x.Roots, roots) || !sameCells(x.Cells, want.cells) {
		t.Fatalf("Image = %+v, not %v, %+v", x, roots, want.cells)
	}
}

func sameThread(a, b api.Thread) bool {
	return a.Status == b.Status && a.Trap == b.Trap && a.Result == b.Result && slices.EqualFunc(a.Frames, b.Frames, sameFrame)
}

func sameFrame(a, b api.Frame) bool {
	return a.Fn == b.Fn && a.Pc == b.Pc && slices.Equal(a.Locals, b.Locals) && slices.Equal(a.Stack, b.Stack)
}

func sameCells(a, b []api.Cell) bool {
	return slices.EqualFunc(a, b, func(x, y api.Cell) bool {
		return x.Addr == y.Addr && x.Class == y.Class && x.Kind == y.Kind && slices.Equal(x.Words, y.Words)
	})
}
