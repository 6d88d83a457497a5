package code

import (
	"math"

	"windrow/api"
)

// mostBytes is how many a number has at most: nine hold 63 bits, and the tenth one more.
const mostBytes = 10

// reader goes through a program's bytes. Behind the first error it reads noughts.
type reader struct {
	bytes []byte
	at    int       // the next byte
	e     api.Errno // the first error
	wrong int       // where it is
}

// Decode: the program that has these bytes; else the byte that is wrong.
func Decode(b []byte) (api.Program, int, api.Errno) {
	if len(b) > api.MaxBytes {
		return api.Program{}, 0, api.ErrBig
	}
	r := &reader{bytes: b}
	r.magic()
	p := api.Program{Classes: list(r, api.MaxClasses, r.class), Funcs: list(r, api.MaxFuncs, r.function)}
	if r.at < len(b) {
		r.fail(r.at, api.ErrMore)
	}
	if r.e != api.OK {
		return api.Program{}, r.wrong, r.e
	}
	return p, 0, api.OK
}

// fail notes an error, if it is the first one.
func (r *reader) fail(at int, e api.Errno) {
	if r.e == api.OK {
		r.wrong, r.e = at, e
	}
}

// next: the next byte.
func (r *reader) next() byte {
	if r.at == len(r.bytes) {
		r.fail(r.at, api.ErrEnds)
	}
	if r.e != api.OK {
		return 0
	}
	b := r.bytes[r.at]
	r.at++
	return b
}

func (r *reader) magic() {
	for i := range len(Magic) {
		if r.next() != Magic[i] {
			r.fail(i, api.ErrMagic)
		}
	}
}

// number: the next one, if it is at most this one.
func (r *reader) number(most uint64) uint64 {
	begin := r.at
	n, last := uint64(0), byte(1<<7)
	for k := 0; k < mostBytes && last >= 1<<7; k++ {
		last = r.next()
		n |= uint64(last&(1<<7-1)) << (7 * k)
	}
	length := r.at - begin
	if length == mostBytes && last > 1 {
		r.fail(begin, api.ErrBig)
	}
	if length > 1 && last == 0 {
		r.fail(begin, api.ErrLoose)
	}
	if n > most {
		r.fail(begin, api.ErrBig)
	}
	if r.e != api.OK {
		return 0
	}
	return n
}

// list: so many things as the count ahead of them says.
func list[T any](r *reader, most int, read func() T) []T {
	var l []T
	n := int(r.number(uint64(most)))
	for i := 0; i < n && r.e == api.OK; i++ {
		l = append(l, read())
	}
	return l
}

func (r *reader) class() api.Class {
	return api.Class{Name: r.name(), Fields: list(r, api.MaxFields, r.field)}
}

func (r *reader) field() api.Field {
	return api.Field{Name: r.name(), Type: r.kind()}
}

func (r *reader) function() api.Func {
	return api.Func{
		Name:   r.name(),
		Params: list(r, api.MaxParams, r.kind),
		Result: r.kind(),
		Locals: list(r, api.MaxLocals, r.kind),
		Code:   list(r, api.MaxCode, r.instruction),
	}
}

func (r *reader) name() string { return string(list(r, api.MaxName, r.next)) }

// kind: the next type.
func (r *reader) kind() int {
	at := r.at
	t := int(r.next())
	if t > api.Ref {
		r.fail(at, api.ErrType)
	}
	return t
}

func (r *reader) instruction() api.Ins {
	at := r.at
	i := api.Ins{Op: int(r.next())}
	operands := Operands(i.Op)
	if operands < 0 {
		r.fail(at, api.ErrOp)
	}
	if i.Op == Const {
		i.A = unfold(r.number(math.MaxUint64))
	} else if operands >= 1 {
		i.A = int64(r.number(mostOperand))
	}
	if operands == 2 {
		i.B = int64(r.number(mostOperand))
	}
	return i
}
