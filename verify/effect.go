package verify

import (
	"slices"

	"windrow/api"
	"windrow/code"
)

// effect is what is known while an instruction takes and puts. Behind the first error it changes nothing.
type effect struct {
	Point
	e api.Errno
}

// apply: what is known after an instruction, by what was known ahead of it.
func (c *Checked) apply(f api.Func, i api.Ins, before Point) (Point, api.Errno) {
	x := &effect{Point: before.clone()}
	switch i.Op {
	case code.Load, code.Store:
		x.local(f, i)
	case code.Dup, code.Drop, code.Swap:
		x.move(i.Op)
	case code.Call, code.Spawn:
		x.enter(i.Op, c.program.Funcs[i.A])
	case code.Return:
		x.leave(f.Result)
	case code.Get, code.Put, code.Cas:
		kind, _ := c.table.Type(int(i.A), int(i.B))
		x.field(i.Op, kind)
	case code.NewInts, code.NewRefs, code.Len, code.IntAt, code.RefAt, code.SetInt, code.SetRef:
		x.array(i.Op)
	default:
		x.plain(i.Op)
	}
	if x.e != api.OK {
		return Point{}, x.e
	}
	return x.Point, api.OK
}

// fail notes an error, if it is the first one.
func (x *effect) fail(e api.Errno) {
	if x.e == api.OK {
		x.e = e
	}
}

// pop takes the last value; its type.
func (x *effect) pop() int {
	if len(x.Stack) == 0 {
		x.fail(api.ErrDepth)
	}
	if x.e != api.OK {
		return api.None
	}
	last := len(x.Stack) - 1
	kind := x.Stack[last]
	x.Stack = x.Stack[:last]
	return kind
}

// take takes values of these types, which stand in the order of the stack.
func (x *effect) take(kinds ...int) {
	for _, kind := range slices.Backward(kinds) {
		if x.pop() != kind {
			x.fail(api.ErrType)
		}
	}
}

// put puts values of these types.
func (x *effect) put(kinds ...int) {
	if len(x.Stack)+len(kinds) > api.MaxStack {
		x.fail(api.ErrDepth)
	}
	if x.e == api.OK {
		x.Stack = append(x.Stack, kinds...)
	}
}

// local is what load and store do.
func (x *effect) local(f api.Func, i api.Ins) {
	if i.Op == code.Store {
		declared := locals(f)[i.A]
		x.take(declared)
		x.Locals[i.A] = declared
		return
	}
	if x.Locals[i.A] == api.None {
		x.fail(api.ErrType)
	}
	x.put(x.Locals[i.A])
}

// move is what dup, drop and swap do.
func (x *effect) move(op int) {
	last := x.pop()
	switch op {
	case code.Dup:
		x.put(last, last)
	case code.Swap:
		other := x.pop()
		x.put(last, other)
	}
}

// enter is what call and spawn do with a function.
func (x *effect) enter(op int, callee api.Func) {
	if op == code.Spawn && callee.Result == api.Ref {
		x.fail(api.ErrType)
	}
	x.take(callee.Params...)
	if op == code.Spawn {
		x.put(api.Int)
	} else if callee.Result != api.None {
		x.put(callee.Result)
	}
}

// leave is what return does in a function with this result.
func (x *effect) leave(result int) {
	if result != api.None {
		x.take(result)
	}
	if len(x.Stack) > 0 {
		x.fail(api.ErrDepth)
	}
}

// field is what get, put and cas do with a field of this type.
func (x *effect) field(op, kind int) {
	switch op {
	case code.Get:
		x.take(api.Ref)
		x.put(kind)
	case code.Put:
		x.take(api.Ref, kind)
	case code.Cas:
		x.take(api.Ref, kind, kind)
		x.put(api.Int)
	}
}

// array is what the instructions for arrays do.
func (x *effect) array(op int) {
	switch op {
	case code.NewInts, code.NewRefs:
		x.take(api.Int)
		x.put(api.Ref)
	case code.Len:
		x.take(api.Ref)
		x.put(api.Int)
	case code.IntAt:
		x.take(api.Ref, api.Int)
		x.put(api.Int)
	case code.RefAt:
		x.take(api.Ref, api.Int)
		x.put(api.Ref)
	case code.SetInt:
		x.take(api.Ref, api.Int, api.Int)
	case code.SetRef:
		x.take(api.Ref, api.Int, api.Ref)
	}
}

// plain is what all others do, whose types their number alone tells.
func (x *effect) plain(op int) {
	switch op {
	case code.Const:
		x.put(api.Int)
	case code.Null, code.Global, code.New:
		x.put(api.Ref)
	case code.Add, code.Sub, code.Mul, code.Div, code.Rem, code.Eq, code.Less:
		x.take(api.Int, api.Int)
		x.put(api.Int)
	case code.Neg, code.Join:
		x.take(api.Int)
		x.put(api.Int)
	case code.Same:
		x.take(api.Ref, api.Ref)
		x.put(api.Int)
	case code.IsNull:
		x.take(api.Ref)
		x.put(api.Int)
	case code.JumpIf, code.Out:
		x.take(api.Int)
	case code.SetGlobal:
		x.take(api.Ref)
	}
}
