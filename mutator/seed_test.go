package mutator_test

import (
	"math"
	"slices"
	"strconv"

	"windrow/api"
	"windrow/code"
)

// seed tells numbers without a pattern, the same ones in each run.
type seed uint64

func (s *seed) next() uint64 {
	x := uint64(*s)
	x ^= x << 13
	x ^= x >> 7
	x ^= x << 17
	*s = seed(x)
	return x >> 8
}

func (s *seed) below(n int) int { return int(s.next() % uint64(n)) }

func (s *seed) kinds(most int) []int {
	var l []int
	for range s.below(most + 1) {
		l = append(l, 1+s.below(2))
	}
	return l
}

// What a reference should refer to: one of the three classes, or
const (
	toInts = 3 + iota
	toRefs
	toAny
)

// writer writes a function whose types are right.
type writer struct {
	*seed
	p   *api.Program
	f   *api.Func
	set []bool // the locals that may be loaded
}

// program: a program whose types are right, and which seldom uses an object as one of another kind.
func (s *seed) program() api.Program {
	node := []api.Field{{Name: "next", Type: api.Ref}, {Name: "n", Type: api.Int}}
	p := api.Program{Classes: []api.Class{{Name: "node", Fields: node}, {Name: "none"}, {Name: "box", Fields: []api.Field{{Name: "to", Type: api.Ref}}}}}
	for i := range 1 + s.below(4) {
		f := api.Func{Name: "f" + strconv.Itoa(i), Params: s.kinds(3), Locals: s.kinds(4), Result: s.below(3)}
		if i == 0 {
			f.Params, f.Result = nil, s.below(2)
		}
		p.Funcs = append(p.Funcs, f)
	}
	for i := range p.Funcs {
		w := &writer{seed: s, p: &p, f: &p.Funcs[i]}
		w.set = append(slices.Repeat([]bool{true}, len(w.f.Params)), make([]bool, len(w.f.Locals))...)
		w.op("poll", 0, 0)
		w.block(2)
		w.leave()
	}
	return p
}

func (w *writer) op(name string, a, b int) {
	w.f.Code = append(w.f.Code, api.Ins{Op: code.Find(name), A: int64(a), B: int64(b)})
}

// leave returns, with a result if there is one.
func (w *writer) leave() {
	w.value(w.f.Result, 1)
	w.op("return", 0, 0)
}

// block writes some lines, each of which leaves the stack as it was.
func (w *writer) block(nest int) {
	for range 2 + w.below(7) {
		switch n := w.below(14); {
		case n < 2 && nest > 0:
			w.branch(nest - 1)
		case n == 2 && nest > 0:
			w.loop(nest - 1)
		case n == 3:
			w.op([]string{"poll", "collect"}[w.below(2)], 0, 0)
		case n == 4:
			w.call()
		default:
			w.line()
		}
	}
}

// branch: one of two ways, which meet behind it. What is stored on either may not be loaded there.
func (w *writer) branch(nest int) {
	w.number(1)
	from := len(w.f.Code)
	w.op("jumpif", 0, 0)
	set := slices.Clone(w.set)
	w.block(nest)
	if w.below(4) == 0 {
		w.leave()
	}
	end := len(w.f.Code)
	w.op("jump", 0, 0)
	w.f.Code[from].A = int64(len(w.f.Code))
	w.set = slices.Clone(set)
	w.block(nest)
	w.f.Code[end].A = int64(len(w.f.Code))
	w.set = set
}

// loop: what is gone through again and again.
func (w *writer) loop(nest int) {
	begin := len(w.f.Code)
	w.op("poll", 0, 0)
	w.block(nest)
	w.number(1)
	w.op("jumpif", begin, 0)
}

// line uses some values.
func (w *writer) line() {
	switch w.below(8) {
	case 0:
		w.number(2)
		w.op("out", 0, 0)
	case 1:
		w.ref(toAny, 2)
		w.op("setglobal", w.below(8), 0)
	case 2:
		w.field("put")
	case 3:
		w.ref(toInts, 2)
		w.index()
		w.number(1)
		w.op("setint", 0, 0)
	case 4:
		w.ref(toRefs, 2)
		w.index()
		w.ref(toAny, 1)
		w.op("setref", 0, 0)
	case 5:
		w.value(1+w.below(2), 2)
		w.op("drop", 0, 0)
	default:
		w.store()
	}
}

// store puts something into a local.
func (w *writer) store() {
	all := slices.Concat(w.f.Params, w.f.Locals)
	if len(all) == 0 {
		return
	}
	i := w.below(len(all))
	w.value(all[i], 2)
	w.op("store", i, 0)
	w.set[i] = true
}

// value puts a value of a type; of None, nothing.
func (w *writer) value(kind, nest int) {
	switch kind {
	case api.Int:
		w.number(nest)
	case api.Ref:
		w.ref(w.below(6), nest)
	}
}

// load puts a local of a type, if there is one that may be loaded.
func (w *writer) load(kind int) bool {
	all := slices.Concat(w.f.Params, w.f.Locals)
	if len(all) == 0 {
		return false
	}
	i := w.below(len(all))
	if !w.set[i] || all[i] != kind {
		return false
	}
	w.op("load", i, 0)
	return true
}

// small: a number that may well be that of a thread or of a place.
func (w *writer) small() int {
	if w.below(40) == 0 {
		return []int{-1, 255, 256, math.MaxInt64, math.MinInt64, 1 << 32}[w.below(6)]
	}
	return w.below(5)
}

// length puts that of an array, mostly one that is greater than most places.
func (w *writer) length() {
	n := 3 + w.below(4)
	if w.below(6) == 0 {
		n = w.small()
	}
	w.op("const", n, 0)
}

// index puts one that an array may have.
func (w *writer) index() {
	if w.below(10) == 0 {
		w.number(1)
		return
	}
	w.op("const", w.below(3), 0)
}

// number puts a number.
func (w *writer) number(nest int) {
	if nest == 0 || w.below(6) == 0 {
		if !w.load(api.Int) {
			w.op("const", w.small(), 0)
		}
		return
	}
	switch w.below(15) {
	case 0:
		w.field("get n")
	case 1:
		w.ref(toInts+w.below(2), nest-1)
		w.op("len", 0, 0)
	case 2, 3:
		w.ref(toInts, nest-1)
		w.index()
		w.op("intat", 0, 0)
	case 4:
		w.ref(toAny, nest-1)
		w.op("isnull", 0, 0)
	case 5:
		w.ref(toAny, nest-1)
		w.op("dup", 0, 0)
		w.ref(toAny, 0)
		w.op("swap", 0, 0)
		w.op("same", 0, 0)
		w.op("swap", 0, 0)
		w.op("drop", 0, 0)
	case 6:
		w.field("cas")
	case 7:
		w.join()
	case 8:
		w.number(nest - 1)
		w.op("neg", 0, 0)
	case 9:
		w.number(nest - 1)
		w.op("const", w.small(), 0)
		w.op([]string{"div", "rem"}[w.below(2)], 0, 0)
	default:
		w.number(nest - 1)
		w.number(nest - 1)
		w.op([]string{"add", "sub", "mul", "eq", "less"}[w.below(5)], 0, 0)
	}
}

// ref puts a reference, mostly to an object of a kind.
func (w *writer) ref(kind, nest int) {
	if kind == toAny || w.below(20) == 0 {
		w.anyRef(nest)
		return
	}
	switch kind {
	case toInts:
		w.length()
		w.op("newints", 0, 0)
	case toRefs:
		w.length()
		w.op("newrefs", 0, 0)
	default:
		w.op("new", kind, 0)
	}
}

// anyRef puts a reference to anything, or to nothing.
func (w *writer) anyRef(nest int) {
	switch n := w.below(9); {
	case n < 4 && w.load(api.Ref):
	case n == 4:
		w.op("global", w.below(8), 0)
	case n == 5 && nest > 0:
		w.ref(toRefs, nest-1)
		w.index()
		w.op("refat", 0, 0)
	case n == 6 && nest > 0:
		w.field("get next")
	case n == 7:
		w.op("null", 0, 0)
	default:
		w.ref(w.below(toAny), nest)
	}
}

// field uses a field of an object.
func (w *writer) field(how string) {
	class, field := 2*w.below(2), 0
	if class == 0 {
		field = w.below(2)
	}
	kind := w.p.Classes[class].Fields[field].Type
	switch how {
	case "get n":
		w.ref(0, 0)
		w.op("get", 0, 1)
	case "get next":
		w.ref(0, 0)
		w.op("get", 0, 0)
	case "put":
		w.ref(class, 1)
		w.value(kind, 1)
		w.op("put", class, field)
	case "cas":
		w.ref(class, 0)
		w.cas(kind)
		w.op("cas", class, field)
	}
}

// cas puts two values of a type, the first of which is often that of a new object's field.
func (w *writer) cas(kind int) {
	if w.below(2) == 0 {
		w.value(kind, 0)
	} else if kind == api.Int {
		w.op("const", 0, 0)
	} else {
		w.op("null", 0, 0)
	}
	w.value(kind, 0)
}

// join puts the result of a thread, mostly of a new one.
func (w *writer) join() {
	switch w.below(4) {
	case 0:
		w.op("const", w.small(), 0)
	case 1:
		w.op("const", w.below(2), 0)
	default:
		w.spawn()
		w.op("dup", 0, 0)
		w.op("out", 0, 0)
	}
	w.op("join", 0, 0)
}

// spawn puts the number of a new thread.
func (w *writer) spawn() {
	fn := w.below(len(w.p.Funcs))
	if w.p.Funcs[fn].Result == api.Ref {
		fn = 0
	}
	w.invoke("spawn", fn)
}

// call: seldom of the function itself.
func (w *writer) call() {
	fn := w.below(len(w.p.Funcs))
	if &w.p.Funcs[fn] != w.f || w.below(6) == 0 {
		w.invoke("call", fn)
	}
}

// invoke puts the arguments of a function, and calls it or has a thread begin with it; what a call puts is dropped.
func (w *writer) invoke(name string, fn int) {
	for _, kind := range w.p.Funcs[fn].Params {
		w.value(kind, 0)
	}
	w.op(name, fn, 0)
	if name == "call" && w.p.Funcs[fn].Result != api.None {
		w.op("drop", 0, 0)
	}
}
