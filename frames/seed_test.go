package frames_test

import (
	"math"
	"slices"
	"strconv"
	"strings"

	"windrow/api"
	"windrow/code"
)

// seed tells numbers without a pattern, the same ones in each run.
type seed uint64

func (s *seed) next() uint64 {
	x := uint64(*s)
	x ^= x << 13
	x ^= x >> 7
	x ^= x << 17
	*s = seed(x)
	return x >> 8
}

func (s *seed) below(n int) int { return int(s.next() % uint64(n)) }

func (s *seed) kinds(most int) []int {
	var l []int
	for range s.below(most + 1) {
		l = append(l, 1+s.below(2))
	}
	return l
}

// number: mostly a small one.
func (s *seed) number() int64 {
	if s.below(6) == 0 {
		return []int64{-1, 255, 256, math.MaxInt64, math.MinInt64, -2}[s.below(6)]
	}
	return int64(s.below(5))
}

// value: an answer of a type.
func (s *seed) value(kind int) api.Value {
	switch kind {
	case api.Int:
		return number(s.number())
	case api.Ref:
		return ref(int64(s.below(12)))
	}
	return api.Value{}
}

// writer writes a function whose types are right.
type writer struct {
	*seed
	p     *api.Program
	f     *api.Func
	lines map[string]line
	set   []bool // the locals that may be loaded
	stack string // the types of the values, the lowest first
}

// program: a program whose types are right.
func (s *seed) program() api.Program {
	p := api.Program{Classes: []api.Class{{Name: "a", Fields: []api.Field{{Name: "n", Type: api.Int}, {Name: "r", Type: api.Ref}}}, {Name: "b"}, {Name: "c", Fields: []api.Field{{Name: "r", Type: api.Ref}}}}}
	for i := range 1 + s.below(4) {
		f := api.Func{Name: "f" + strconv.Itoa(i), Params: s.kinds(3), Locals: s.kinds(4), Result: s.below(3)}
		if i == 0 {
			f.Params, f.Result = nil, s.below(2)
		}
		p.Funcs = append(p.Funcs, f)
	}
	for i := range p.Funcs {
		w := &writer{seed: s, p: &p, f: &p.Funcs[i], lines: chapter()}
		w.set = append(slices.Repeat([]bool{true}, len(w.f.Params)), make([]bool, len(w.f.Locals))...)
		w.write("poll", 0, 0)
		w.block(3)
		w.leave()
	}
	return p
}

func (w *writer) write(name string, a, b int64) {
	w.f.Code = append(w.f.Code, api.Ins{Op: code.Find(name), A: a, B: b})
}

// block writes instructions behind which the stack is as it was.
func (w *writer) block(nest int) {
	low := len(w.stack)
	for range 1 + w.below(8) {
		switch n := w.below(12); {
		case len(w.f.Code) > 190:
			// The function may have no more than 256 instructions.
		case n < 2 && nest > 0:
			w.branch(nest - 1)
		case n == 2 && nest > 0:
			w.loop(nest - 1)
		default:
			w.any(low)
		}
		if len(w.stack) > 9 {
			w.drop(low)
		}
	}
	w.drop(low)
}

func (w *writer) drop(low int) {
	for len(w.stack) > low {
		w.write("drop", 0, 0)
		w.stack = w.stack[:len(w.stack)-1]
	}
}

// leave drops all values and returns.
func (w *writer) leave() {
	w.drop(0)
	if w.f.Result != api.None {
		w.push(rune("-ir"[w.f.Result]))
		w.stack = ""
	}
	w.write("return", 0, 0)
}

// branch: one of two ways, which meet behind it. What is stored on either may not be loaded there.
func (w *writer) branch(nest int) {
	w.push('i')
	w.stack = w.stack[:len(w.stack)-1]
	stack, set := w.stack, slices.Clone(w.set)
	from := len(w.f.Code)
	w.write("jumpif", 0, 0)
	w.block(nest)
	if w.below(4) == 0 {
		w.leave()
	}
	end := len(w.f.Code)
	w.write("jump", 0, 0)
	w.f.Code[from].A = int64(len(w.f.Code))
	w.stack, w.set = stack, slices.Clone(set)
	w.block(nest)
	w.f.Code[end].A = int64(len(w.f.Code))
	w.stack, w.set = stack, set
	w.write([]string{"poll", "collect"}[w.below(2)], 0, 0)
}

// loop: what is gone through again and again.
func (w *writer) loop(nest int) {
	begin := len(w.f.Code)
	w.write("poll", 0, 0)
	w.block(nest)
	w.push('i')
	w.stack = w.stack[:len(w.stack)-1]
	w.write("jumpif", int64(begin), 0)
}

// push puts a value of a type.
func (w *writer) push(kind rune) {
	all := slices.Concat(w.f.Params, w.f.Locals)
	if i := w.below(len(all) + 2); i < len(all) && w.set[i] && rune("-ir"[all[i]]) == kind {
		w.write("load", int64(i), 0)
	} else if kind == 'i' {
		w.write("const", w.number(), 0)
	} else if w.below(8) == 0 {
		w.write("null", 0, 0)
	} else {
		w.write("global", int64(w.below(8)), 0)
	}
	w.stack += string(kind)
}

// any writes any instruction that neither jumps nor returns, and ahead of it what it takes and isn't there yet.
func (w *writer) any(low int) {
	name := code.Name(1 + w.below(code.Ops))
	if w.below(6) == 0 {
		name = "call"
	}
	a, b, takes, puts, ok := w.operands(name)
	if !ok {
		return
	}
	here := len(takes)
	for len(w.stack)-here < low || !strings.HasSuffix(w.stack, takes[:here]) {
		here--
	}
	for _, kind := range takes[here:] {
		w.push(kind)
	}
	w.write(name, a, b)
	if name == "store" {
		w.set[a] = true
	}
	w.stack = w.stack[:len(w.stack)-len(takes)] + puts
}

// operands: any ones of an instruction, and the types that it takes and puts with them; false: it can't stand here.
func (w *writer) operands(name string) (a, b int64, takes, puts string, ok bool) {
	any := strings.NewReplacer("1", w.letter(), "2", w.letter())
	takes, puts = any.Replace(w.lines[name].takes), any.Replace(w.lines[name].puts)
	letters := func(kinds ...int) string {
		l := ""
		for _, kind := range kinds {
			l += "-ir"[kind : kind+1]
		}
		return strings.TrimPrefix(l, "-")
	}
	switch name {
	case "jump", "jumpif", "return":
		return 0, 0, "", "", false
	case "const":
		a = w.number()
	case "load", "store":
		all := slices.Concat(w.f.Params, w.f.Locals)
		if len(all) == 0 {
			return 0, 0, "", "", false
		}
		a = int64(w.below(len(all)))
		takes, puts = strings.ReplaceAll(takes, "d", letters(all[a])), strings.ReplaceAll(puts, "l", letters(all[a]))
		ok = name == "store" || w.set[a]
		return a, 0, takes, puts, ok
	case "call", "spawn":
		fn := w.below(len(w.p.Funcs))
		callee := w.p.Funcs[fn]
		takes, puts = letters(callee.Params...), strings.ReplaceAll(puts, "o", letters(callee.Result))
		return int64(fn), 0, takes, puts, name == "call" || callee.Result != api.Ref
	case "global", "setglobal":
		a = int64(w.below(8))
	case "new":
		a = int64(w.below(3))
	case "get", "put", "cas":
		a = int64(2 * w.below(2))
		fields := w.p.Classes[a].Fields
		b = int64(w.below(len(fields)))
		takes, puts = strings.ReplaceAll(takes, "f", letters(fields[b].Type)), strings.ReplaceAll(puts, "f", letters(fields[b].Type))
	}
	return a, b, takes, puts, true
}

// letter of any type.
func (w *writer) letter() string { return []string{"i", "r"}[w.below(2)] }
