package verify

import (
	"slices"

	"windrow/api"
	"windrow/classes"
	"windrow/code"
)

// inClasses stands in a Place for the function, where a class is wrong.
const inClasses = -1

// Check looks a program over; else where it is wrong.
func Check(p api.Program) (*Checked, Place, api.Errno) {
	t, at, e := classes.New(p.Classes)
	if e != api.OK {
		return nil, Place{Fn: inClasses, Pc: at}, e
	}
	c := &Checked{program: p, table: t}
	if place, e := c.inspect(); e != api.OK {
		return nil, place, e
	}
	// The lists are the caller's, who may change them.
	c.program = code.Copy(p)
	return c, Place{}, api.OK
}

// inspect looks the functions over, and keeps what is known ahead of their instructions.
func (c *Checked) inspect() (Place, api.Errno) {
	switch n := len(c.program.Funcs); {
	case n == 0:
		return Place{}, api.ErrFunc
	case n > api.MaxFuncs:
		return Place{}, api.ErrBig
	}
	if place, e := c.each(c.shape); e != api.OK {
		return place, e
	}
	if place, e := c.each(c.body); e != api.OK {
		return place, e
	}
	return c.each(func(fn int) (int, api.Errno) {
		points, at, e := c.flow(c.program.Funcs[fn])
		c.points = append(c.points, points)
		return at, e
	})
}

// each: where the first function is wrong, as a look at one tells it.
func (c *Checked) each(look func(fn int) (int, api.Errno)) (Place, api.Errno) {
	for fn := range c.program.Funcs {
		if at, e := look(fn); e != api.OK {
			return Place{Fn: fn, Pc: at}, e
		}
	}
	return Place{}, api.OK
}

// isValue: may a local have this type?
func isValue(kind int) bool { return kind == api.Int || kind == api.Ref }

// locals: the types of a function's locals.
func locals(f api.Func) []int { return slices.Concat(f.Params, f.Locals) }

// shape looks at all of a function but its instructions; what is wrong is told at the first of them.
func (c *Checked) shape(fn int) (int, api.Errno) {
	f := c.program.Funcs[fn]
	named := func(other api.Func) bool { return other.Name == f.Name }
	switch {
	case !classes.IsName(f.Name):
		return 0, api.ErrName
	case slices.ContainsFunc(c.program.Funcs[:fn], named):
		return 0, api.ErrTwice
	case len(f.Params) > api.MaxParams || len(f.Params)+len(f.Locals) > api.MaxLocals || len(f.Code) > api.MaxCode:
		return 0, api.ErrBig
	}
	for _, kind := range locals(f) {
		if !isValue(kind) {
			return 0, api.ErrType
		}
	}
	switch {
	case f.Result != api.None && !isValue(f.Result):
		return 0, api.ErrType
	case len(f.Code) == 0:
		return 0, api.ErrFall
	case fn == 0 && (len(f.Params) > 0 || f.Result == api.Ref):
		return 0, api.ErrEntry
	}
	return 0, api.OK
}

// body looks at a function's instructions one by one, then for polls where they must be.
func (c *Checked) body(fn int) (int, api.Errno) {
	f := c.program.Funcs[fn]
	for pc, i := range f.Code {
		if e := c.operands(f, i); e != api.OK {
			return pc, e
		}
	}
	if f.Code[0].Op != code.Poll {
		return 0, api.ErrPoll
	}
	for pc, i := range f.Code {
		jumps := i.Op == code.Jump || i.Op == code.JumpIf
		if jumps && int(i.A) <= pc && f.Code[i.A].Op != code.Poll {
			return pc, api.ErrPoll
		}
	}
	return 0, api.OK
}

// operands: is there what an instruction names?
func (c *Checked) operands(f api.Func, i api.Ins) api.Errno {
	if !code.Right(i) {
		return api.ErrOp
	}
	// Those that name anything have no greater operands than an int holds.
	a := int(i.A)
	switch i.Op {
	case code.Load, code.Store:
		if a >= len(f.Params)+len(f.Locals) {
			return api.ErrLocal
		}
	case code.Jump, code.JumpIf:
		if a >= len(f.Code) {
			return api.ErrTarget
		}
	case code.Call, code.Spawn:
		if a >= len(c.program.Funcs) {
			return api.ErrFunc
		}
	case code.New:
		_, e := c.table.Head(a)
		return e
	case code.Get, code.Put, code.Cas:
		_, e := c.table.Type(a, int(i.B))
		return e
	case code.Global, code.SetGlobal:
		if a >= api.Globals {
			return api.ErrGlobal
		}
	}
	return api.OK
}
