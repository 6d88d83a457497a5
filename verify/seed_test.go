package verify_test

import (
	"slices"
	"strconv"

	"windrow/api"
	"windrow/code"
)

// seed tells numbers without a pattern, the same ones in each run.
type seed uint64

func (s *seed) next() uint64 {
	x := uint64(*s)
	x ^= x << 13
	x ^= x >> 7
	x ^= x << 17
	*s = seed(x)
	return x >> 8
}

func (s *seed) below(n int) int { return int(s.next() % uint64(n)) }

func (s *seed) kinds(most int) []int {
	var l []int
	for range s.below(most + 1) {
		l = append(l, 1+s.below(2))
	}
	return l
}

func (s *seed) classes() []api.Class {
	var l []api.Class
	for i := range s.below(4) {
		c := api.Class{Name: "c" + strconv.Itoa(i)}
		for j, kind := range s.kinds(3) {
			c.Fields = append(c.Fields, api.Field{Name: "f" + strconv.Itoa(j), Type: kind})
		}
		l = append(l, c)
	}
	return l
}

// shape: a program whose functions have no code yet.
func (s *seed) shape(most int) api.Program {
	p := api.Program{Classes: s.classes()}
	for i := range 1 + s.below(most) {
		f := api.Func{Name: "g" + strconv.Itoa(i), Params: s.kinds(3), Locals: s.kinds(4), Result: s.below(3)}
		if i == 0 {
			f.Params, f.Result = nil, s.below(2)
		}
		p.Funcs = append(p.Funcs, f)
	}
	return p
}

// instruction: any one, whose operands are mostly those of something that there is.
func (s *seed) instruction(p api.Program, f api.Func, length int) api.Ins {
	i := api.Ins{Op: 1 + s.below(code.Ops)}
	most := 1
	switch code.Name(i.Op) {
	case "load", "store":
		most = len(f.Params) + len(f.Locals)
	case "jump", "jumpif":
		most = length
	case "call", "spawn":
		most = len(p.Funcs)
	case "new", "get", "put", "cas":
		most = len(p.Classes)
	case "global", "setglobal":
		most = 8
	}
	if s.below(8) == 0 {
		most++
	}
	if code.Operands(i.Op) > 0 {
		i.A = int64(s.below(max(most, 1)))
	}
	if code.Operands(i.Op) == 2 && i.A < int64(len(p.Classes)) {
		i.B = int64(s.below(max(len(p.Classes[i.A].Fields), 1)))
	}
	return i
}

// wild: a program of short functions whose instructions are any.
func (s *seed) wild() api.Program {
	p := s.shape(3)
	for fn := range p.Funcs {
		f := &p.Funcs[fn]
		length := 1 + s.below(10)
		f.Code = []api.Ins{{Op: code.Poll}}
		for len(f.Code) < length {
			i := s.instruction(p, *f, length)
			if s.below(3) == 0 {
				i = api.Ins{Op: []int{code.Const, code.Null, code.Poll}[s.below(3)]}
			}
			f.Code = append(f.Code, i)
		}
		if s.below(2) == 0 {
			f.Code = append(f.Code, api.Ins{Op: code.Poll}, api.Ins{Op: code.Jump, A: int64(len(f.Code))})
		}
	}
	return p
}

// writer writes code whose types are right.
type writer struct {
	*seed
	p    api.Program
	f    *api.Func
	all  []int  // the locals' declared types
	set  []bool // those that may be loaded
	left int    // how much may still be written
	deep int    // how many values lie on the stack
}

// tame: a program whose types are right.
func (s *seed) tame(most, size int) api.Program {
	p := s.shape(most)
	for fn := range p.Funcs {
		f := &p.Funcs[fn]
		w := &writer{seed: s, p: p, f: f, all: slices.Concat(f.Params, f.Locals), left: s.below(size)}
		w.set = make([]bool, len(w.all))
		for i := range f.Params {
			w.set[i] = true
		}
		w.write(code.Poll)
		w.statements(3)
		w.leave()
	}
	return p
}

func (w *writer) write(op int, operands ...int) {
	i := api.Ins{Op: op}
	for j, n := range operands {
		if j == 0 {
			i.A = int64(n)
		} else {
			i.B = int64(n)
		}
	}
	w.f.Code = append(w.f.Code, i)
	w.left--
}

func (w *writer) leave() {
	for range w.deep {
		w.write(code.Drop)
	}
	if w.f.Result != api.None {
		w.value(w.f.Result, 2)
	}
	w.write(code.Return)
}

// statements change nothing on the stack.
func (w *writer) statements(nest int) {
	for range 1 + w.below(4) {
		if w.left > 0 {
			w.statement(nest)
		}
	}
}

func (w *writer) statement(nest int) {
	switch n := w.below(10); {
	case n < 2 && nest > 0:
		w.branch(nest - 1)
	case n < 4 && nest > 0:
		w.loop(nest - 1)
	case n == 4 && len(w.all) > 0:
		i := w.below(len(w.all))
		w.value(w.all[i], 2)
		w.write(code.Store, i)
		w.set[i] = true
	case n == 5:
		w.value(api.Ref, 2)
		w.write(code.SetGlobal, w.below(8))
	case n == 6:
		w.change()
	case n == 7:
		w.call()
	case n == 8 && w.deep < 4:
		w.value(1+w.below(2), 1)
		w.deep++
		w.statements(nest)
		w.deep--
		w.write(code.Drop)
	default:
		w.value(api.Int, 2)
		w.write([]int{code.Out, code.Drop}[w.below(2)])
	}
}

// branch may be left out when the program runs, so that what it stores may not be loaded behind it.
func (w *writer) branch(nest int) {
	set := slices.Clone(w.set)
	w.value(api.Int, 1)
	from := len(w.f.Code)
	w.write(code.JumpIf)
	w.statements(nest)
	if w.below(3) == 0 {
		deep := w.deep
		w.leave()
		w.deep = deep
	}
	w.f.Code[from].A = int64(len(w.f.Code))
	w.set = set
	w.write([]int{code.Poll, code.Collect}[w.below(2)])
}

func (w *writer) loop(nest int) {
	begin := len(w.f.Code)
	w.write(code.Poll)
	w.statements(nest)
	w.value(api.Int, 1)
	w.write(code.JumpIf, begin)
}

// change writes into an object.
func (w *writer) change() {
	switch w.below(3) {
	case 0:
		w.value(api.Ref, 1)
		w.value(api.Int, 0)
		w.value(api.Int, 0)
		w.write(code.SetInt)
	case 1:
		w.value(api.Ref, 1)
		w.value(api.Int, 0)
		w.value(api.Ref, 0)
		w.write(code.SetRef)
	case 2:
		if class, field, kind, ok := w.field(0); ok {
			w.value(api.Ref, 1)
			w.value(kind, 1)
			w.write(code.Put, class, field)
		}
	}
}

// field: any field, of this type if one is named.
func (w *writer) field(kind int) (int, int, int, bool) {
	for range 4 {
		if len(w.p.Classes) > 0 {
			class := w.below(len(w.p.Classes))
			if fields := w.p.Classes[class].Fields; len(fields) > 0 {
				i := w.below(len(fields))
				if kind == 0 || fields[i].Type == kind {
					return class, i, fields[i].Type, true
				}
			}
		}
	}
	return 0, 0, 0, false
}

// call calls any function or has a thread begin with it.
func (w *writer) call() {
	fn := w.below(len(w.p.Funcs))
	callee := w.p.Funcs[fn]
	for _, kind := range callee.Params {
		w.value(kind, 0)
	}
	if callee.Result != api.Ref && w.below(2) == 0 {
		w.write(code.Spawn, fn)
		w.write(code.Drop)
		return
	}
	w.write(code.Call, fn)
	if callee.Result != api.None {
		w.write(code.Drop)
	}
}

// value puts a value on the stack.
func (w *writer) value(kind, nest int) {
	if i := w.below(len(w.all) + 1); i < len(w.all) && w.set[i] && w.all[i] == kind {
		w.write(code.Load, i)
		return
	}
	switch {
	case kind == api.Int && nest > 0:
		w.number(nest - 1)
	case kind == api.Int:
		w.write(code.Const, w.below(9)-4)
	case nest > 0:
		w.reference(nest - 1)
	default:
		w.write(code.Null)
	}
}

func (w *writer) number(nest int) {
	switch w.below(8) {
	case 0:
		w.value(api.Int, nest)
		w.value(api.Int, nest)
		w.write([]int{code.Add, code.Sub, code.Mul, code.Div, code.Rem, code.Eq, code.Less}[w.below(7)])
	case 1:
		w.value(api.Int, nest)
		w.write([]int{code.Neg, code.Join}[w.below(2)])
	case 2:
		w.value(api.Ref, nest)
		w.value(api.Ref, nest)
		w.write(code.Same)
	case 3:
		w.value(api.Ref, nest)
		w.write([]int{code.IsNull, code.Len}[w.below(2)])
	case 4:
		w.value(api.Ref, nest)
		w.value(api.Int, nest)
		w.write(code.IntAt)
	case 5:
		if class, field, kind, ok := w.field(0); ok {
			w.value(api.Ref, nest)
			w.value(kind, nest)
			w.value(kind, nest)
			w.write(code.Cas, class, field)
			return
		}
		w.write(code.Const, w.below(99))
	case 6:
		w.value(api.Int, nest)
		w.write(code.Dup)
		w.write(code.Swap)
		w.write(code.Drop)
	default:
		w.write(code.Const, w.below(99))
	}
}

func (w *writer) reference(nest int) {
	switch w.below(6) {
	case 0:
		w.value(api.Int, nest)
		w.write([]int{code.NewInts, code.NewRefs}[w.below(2)])
	case 1:
		w.value(api.Ref, nest)
		w.value(api.Int, nest)
		w.write(code.RefAt)
	case 2:
		if class, field, _, ok := w.field(api.Ref); ok {
			w.value(api.Ref, nest)
			w.write(code.Get, class, field)
			return
		}
		w.write(code.Null)
	case 3:
		if n := len(w.p.Classes); n > 0 {
			w.write(code.New, w.below(n))
			return
		}
		w.write(code.Null)
	default:
		w.write(code.Global, w.below(8))
	}
}

// tangle: a program of blocks that begin with a poll, store and load a few locals, and jump to any blocks.
func (s *seed) tangle() api.Program {
	f := api.Func{Name: "main", Locals: []int{api.Int, api.Ref, api.Int}}
	blocks := 2 + s.below(8)
	size := 8 // of each block
	for n := range blocks {
		w := &writer{seed: s, f: &f}
		w.write(code.Poll)
		if i := s.below(6); i < 3 && s.below(2) == 0 {
			w.write([]int{code.Const, code.Null}[i%2])
			w.write(code.Store, i)
		}
		if i := s.below(8); i < 3 && s.below(2) == 0 {
			w.write(code.Load, i)
			w.write(code.Drop)
		}
		w.write(code.Const)
		w.write(code.JumpIf, s.below(blocks)*size)
		for len(f.Code)%size != 0 {
			w.write([]int{code.Jump, code.Jump, code.Return}[s.below(3)], s.below(blocks)*size)
			if i := &f.Code[len(f.Code)-1]; i.Op == code.Return {
				i.A = 0
			}
		}
		if n == blocks-1 {
			w.write(code.Poll)
			w.write(code.Return)
		}
	}
	return api.Program{Funcs: []api.Func{f}}
}

// hurt changes one thing in a program's code.
func (s *seed) hurt(p api.Program) api.Program {
	p = code.Copy(p)
	f := &p.Funcs[s.below(len(p.Funcs))]
	at := s.below(len(f.Code))
	switch s.below(5) {
	case 0:
		f.Code[at] = s.instruction(p, *f, len(f.Code))
	case 1:
		f.Code = slices.Delete(f.Code, at, at+1)
	case 2:
		f.Code = slices.Insert(f.Code, at, s.instruction(p, *f, len(f.Code)))
	case 3:
		other := s.below(len(f.Code))
		f.Code[at], f.Code[other] = f.Code[other], f.Code[at]
	case 4:
		f.Code[at].A += int64(s.below(3) - 1)
	}
	return p
}
