package code

import (
	"windrow/api"
)

// writer holds a program's bytes up to the first thing that can't be written.
type writer struct {
	bytes []byte
	e     api.Errno // why it can't
}

// Encode: a program's bytes.
func Encode(p api.Program) ([]byte, api.Errno) {
	w := &writer{bytes: []byte(Magic)}
	w.list(len(p.Classes), api.MaxClasses, func(i int) { w.class(p.Classes[i]) })
	w.list(len(p.Funcs), api.MaxFuncs, func(i int) { w.function(p.Funcs[i]) })
	if w.e != api.OK {
		return nil, w.e
	}
	return w.bytes, api.OK
}

// list writes a count, then each thing by its index.
func (w *writer) list(n, most int, write func(i int)) {
	if w.e != api.OK {
		return
	}
	if n > most {
		w.e = api.ErrBig
		return
	}
	w.number(uint64(n))
	for i := 0; i < n && w.e == api.OK; i++ {
		write(i)
	}
}

// number writes the groups of seven bits, the least significant first.
func (w *writer) number(n uint64) {
	for n >= 1<<7 {
		w.bytes = append(w.bytes, byte(n)|1<<7)
		n >>= 7
	}
	w.bytes = append(w.bytes, byte(n))
}

func (w *writer) class(c api.Class) {
	w.name(c.Name)
	w.list(len(c.Fields), api.MaxFields, func(i int) {
		w.name(c.Fields[i].Name)
		w.kind(c.Fields[i].Type)
	})
}

func (w *writer) function(f api.Func) {
	w.name(f.Name)
	w.list(len(f.Params), api.MaxParams, func(i int) { w.kind(f.Params[i]) })
	w.kind(f.Result)
	w.list(len(f.Locals), api.MaxLocals, func(i int) { w.kind(f.Locals[i]) })
	w.list(len(f.Code), api.MaxCode, func(i int) { w.instruction(f.Code[i]) })
}

func (w *writer) name(s string) {
	w.list(len(s), api.MaxName, func(i int) { w.bytes = append(w.bytes, s[i]) })
}

// kind writes a type.
func (w *writer) kind(t int) {
	if w.e != api.OK {
		return
	}
	if t != api.None && t != api.Int && t != api.Ref {
		w.e = api.ErrType
		return
	}
	w.bytes = append(w.bytes, byte(t))
}

func (w *writer) instruction(i api.Ins) {
	if !Right(i) {
		w.e = api.ErrOp
		return
	}
	w.bytes = append(w.bytes, byte(i.Op))
	operands := Operands(i.Op)
	if i.Op == Const {
		w.number(fold(i.A))
	} else if operands >= 1 {
		w.number(uint64(i.A))
	}
	if operands == 2 {
		w.number(uint64(i.B))
	}
}

// fold: 2 n, or -2 n - 1 for n below 0, so that numbers near 0 take few bytes.
func fold(n int64) uint64 {
	if n < 0 {
		// ^n is -n - 1, which is in range for each n, as -n is not.
		return uint64(^n)<<1 | 1
	}
	return uint64(n) << 1
}

// unfold: the number that fold made this one of.
func unfold(n uint64) int64 {
	if n&1 == 1 {
		return ^int64(n >> 1)
	}
	return int64(n >> 1)
}
