package frames

import (
	"slices"

	"windrow/api"
	"windrow/code"
)

// last: the frame whose instructions are performed.
func (t *Thread) last() *api.Frame { return &t.state.Frames[len(t.state.Frames)-1] }

// next: the next instruction, and a copy of the values that it takes, in the order of the stack.
func (t *Thread) next() (api.Ins, []api.Value) {
	f := t.last()
	i, _ := t.program.Ins(f.Fn, f.Pc)
	return i, slices.Clone(f.Stack[len(f.Stack)-t.takes(i):])
}

// takes: how many values an instruction of the last frame takes.
func (t *Thread) takes(i api.Ins) int {
	switch i.Op {
	case code.Store, code.Dup, code.Drop, code.Neg, code.IsNull, code.JumpIf, code.Out, code.Join,
		code.SetGlobal, code.NewInts, code.NewRefs, code.Get, code.Len:
		return 1
	case code.Swap, code.Add, code.Sub, code.Mul, code.Div, code.Rem, code.Eq, code.Less, code.Same,
		code.Put, code.IntAt, code.RefAt:
		return 2
	case code.Cas, code.SetInt, code.SetRef:
		return 3
	case code.Call, code.Spawn:
		params, _, _, _ := t.program.Func(int(i.A))
		return len(params)
	case code.Return:
		_, result, _, _ := t.program.Func(t.last().Fn)
		if result != api.None {
			return 1
		}
	}
	return 0
}

// fault: the trap that stops the thread at an instruction with these values; 0: there is none.
func (t *Thread) fault(i api.Ins, v []api.Value) int {
	switch i.Op {
	case code.Div, code.Rem:
		if v[1].N == 0 {
			return api.TrapZero
		}
	case code.Call:
		if len(t.state.Frames) >= api.MaxFrames {
			return api.TrapFrames
		}
	case code.NewInts, code.NewRefs:
		if v[0].N < 0 || v[0].N > api.MaxPayload {
			return api.TrapSize
		}
	case code.Get, code.Put, code.Cas, code.Len, code.IntAt, code.RefAt, code.SetInt, code.SetRef:
		if v[0].N == 0 {
			return api.TrapNull
		}
	}
	return 0
}

// want: what the next instruction of a running thread needs.
func (t *Thread) want() Want {
	i, v := t.next()
	w := Want{Op: i.Op, Fn: t.last().Fn, Pc: t.last().Pc}
	if trap := t.fault(i, v); trap != 0 {
		w.Kind, w.Trap = Fault, trap
		return w
	}
	switch i.Op {
	case code.Poll:
		w.Kind = Stop
	case code.Collect:
		w.Kind = Gather
	case code.Out:
		w.Kind, w.V = Tell, v[0]
	case code.Join:
		w.Kind, w.Index, w.Type = Await, v[0].N, api.Int
	case code.Spawn:
		w.Kind, w.Callee, w.Args, w.Type = Begin, int(i.A), v, api.Int
	case code.Global:
		w.Kind, w.Index, w.Type = ReadRoot, i.A, api.Ref
	case code.SetGlobal:
		w.Kind, w.Index, w.V = WriteRoot, i.A, v[0]
	case code.Return:
		t.wantEnd(&w, v)
	case code.New, code.NewInts, code.NewRefs:
		t.wantObject(&w, i, v)
	case code.Get, code.Put, code.Cas:
		t.wantField(&w, i, v)
	case code.Len, code.IntAt, code.RefAt, code.SetInt, code.SetRef:
		wantPlace(&w, v)
	}
	return w
}

// wantEnd is what return needs, which ends the thread if no frame waits for it.
func (t *Thread) wantEnd(w *Want, v []api.Value) {
	if len(t.state.Frames) > 1 {
		return
	}
	w.Kind, w.V = End, api.Value{Type: api.Int}
	if len(v) > 0 {
		w.V = v[0]
	}
}

// wantObject is what the instructions that make an object need.
func (t *Thread) wantObject(w *Want, i api.Ins, v []api.Value) {
	w.Kind, w.Type = Make, api.Ref
	if i.Op == code.New {
		h, _ := t.program.Table().Head(int(i.A))
		w.Class, w.Object, w.Len = h.Class, h.Kind, h.Len
		return
	}
	w.Object, w.Len = api.Ints, int(v[0].N)
	if i.Op == code.NewRefs {
		w.Object = api.Refs
	}
}

// wantField is what the instructions for fields need.
func (t *Thread) wantField(w *Want, i api.Ins, v []api.Value) {
	w.Object, w.Class, w.Ref, w.Index = api.Fields, int(i.A), v[0].N, i.B
	switch i.Op {
	case code.Get:
		w.Kind = Read
		w.Type, _ = t.program.Table().Type(int(i.A), int(i.B))
	case code.Put:
		w.Kind, w.V = Write, v[1]
	case code.Cas:
		w.Kind, w.Expect, w.V, w.Type = Change, v[1], v[2], api.Int
	}
}

// wantPlace is what the instructions for arrays need.
func wantPlace(w *Want, v []api.Value) {
	w.Ref = v[0].N
	if w.Op == code.Len {
		w.Kind, w.Type = Length, api.Int
		return
	}
	w.Index = v[1].N
	switch w.Op {
	case code.IntAt:
		w.Kind, w.Object, w.Type = Read, api.Ints, api.Int
	case code.RefAt:
		w.Kind, w.Object, w.Type = Read, api.Refs, api.Ref
	case code.SetInt:
		w.Kind, w.Object, w.V = Write, api.Ints, v[2]
	case code.SetRef:
		w.Kind, w.Object, w.V = Write, api.Refs, v[2]
	}
}
