package frames

import (
	"windrow/api"
	"windrow/code"
)

// pass: the last frame's next instruction takes its values and puts these, and the frame goes on behind it.
func (t *Thread) pass(put ...api.Value) {
	f := t.last()
	_, taken := t.next()
	f.Stack = append(f.Stack[:len(f.Stack)-len(taken)], put...)
	f.Pc++
}

// perform performs an instruction that needs nothing from outside.
func (t *Thread) perform() {
	f := t.last()
	i, v := t.next()
	switch i.Op {
	case code.Call:
		t.pass()
		t.enter(int(i.A), v)
	case code.Return:
		t.state.Frames = t.state.Frames[:len(t.state.Frames)-1]
		t.last().Stack = append(t.last().Stack, v...)
	case code.Jump:
		f.Pc = int(i.A)
	case code.JumpIf:
		t.pass()
		if v[0].N != 0 {
			f.Pc = int(i.A)
		}
	case code.Load:
		t.pass(f.Locals[i.A])
	case code.Store:
		t.pass()
		f.Locals[i.A] = v[0]
	case code.Null:
		t.pass(api.Value{Type: api.Ref})
	case code.Dup:
		t.pass(v[0], v[0])
	case code.Drop:
		t.pass()
	case code.Swap:
		t.pass(v[1], v[0])
	default:
		t.pass(api.Value{Type: api.Int, N: number(i, v)})
	}
}

// number: what an instruction puts that puts a number.
func number(i api.Ins, v []api.Value) int64 {
	switch i.Op {
	case code.Const:
		return i.A
	case code.Neg:
		return -v[0].N
	case code.IsNull:
		return truth(v[0].N == 0)
	}
	return combined(i.Op, v[0].N, v[1].N)
}

// combined: what an instruction makes of two numbers, or of what two references refer to.
func combined(op int, a, b int64) int64 {
	switch op {
	case code.Add:
		return a + b
	case code.Sub:
		return a - b
	case code.Mul:
		return a * b
	case code.Div:
		return a / b
	case code.Rem:
		return a % b
	case code.Less:
		return truth(a < b)
	}
	// What is left are eq and same.
	return truth(a == b)
}

// truth: 1 for what is so, else 0.
func truth(b bool) int64 {
	if b {
		return 1
	}
	return 0
}
