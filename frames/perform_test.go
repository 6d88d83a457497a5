package frames_test

import (
	"math"
	"math/big"
	"strconv"
	"testing"

	"windrow/api"
	"windrow/code"
	"windrow/frames"
)

// edges: numbers at the ends of ranges, and between them.
func edges() []int64 {
	return []int64{0, 1, 2, 3, 7, -1, -2, -3, -7, 10, -10, 1 << 31, -1 << 31, 1<<32 - 1, 1 << 32, 3037000500, -3037000500, 1 << 62, -1 << 62, math.MaxInt64 - 1, math.MaxInt64, math.MinInt64, math.MinInt64 + 1, 0x123456789ABCDEF}
}

// wrapped: a number modulo 2^64, from -2^63 to 2^63 - 1.
func wrapped(n *big.Int) int64 {
	half := new(big.Int).Lsh(big.NewInt(1), 63)
	n = new(big.Int).Add(n, half)
	n.Mod(n, new(big.Int).Lsh(big.NewInt(1), 64))
	return n.Sub(n, half).Int64()
}

// told: 1 for what is so, else 0.
func told(b bool) int64 {
	if b {
		return 1
	}
	return 0
}

// reckoned: what an instruction makes of two numbers, by the chapter's words.
func reckoned(name string, a, b int64) int64 {
	x, y := big.NewInt(a), big.NewInt(b)
	z := new(big.Int)
	switch name {
	case "add":
		z.Add(x, y)
	case "sub":
		z.Sub(x, y)
	case "mul":
		z.Mul(x, y)
	case "div":
		z.Quo(x, y)
	case "rem":
		z.Sub(x, z.Mul(y, new(big.Int).Quo(x, y)))
	case "neg":
		z.Neg(x)
	case "eq", "same":
		return told(x.Cmp(y) == 0)
	case "less":
		return told(x.Cmp(y) < 0)
	case "isnull":
		return told(x.Sign() == 0)
	}
	return wrapped(z)
}

// inner has a thread do its next instruction, which is Inner and takes any answer but {0, 0} for a fault.
func inner(t *testing.T, th *frames.Thread, name string, fn, pc int) {
	t.Helper()
	wants(t, th, frames.Want{Op: code.Find(name), Fn: fn, Pc: pc})
	before := th.View()
	for _, v := range values() {
		if v == (api.Value{}) {
			continue
		}
		if e := th.Done(v); e != api.ErrType {
			t.Errorf("%s: Done(%v) = %d", name, v, e)
		}
	}
	stands(t, th, before)
	done(t, th, api.Value{})
}

// skip has a thread do instructions whose answers are given.
func skip(t *testing.T, th *frames.Thread, answers ...api.Value) {
	t.Helper()
	for _, v := range answers {
		done(t, th, v)
	}
}

// P17.1: all arithmetic, with all edges as both numbers.
func TestNumbers(t *testing.T) {
	for _, name := range []string{"add", "sub", "mul", "div", "rem", "eq", "less"} {
		p := checked(t, "func main\npoll\nreturn\nend\nfunc f int int -> int\npoll\nconst 99\nload 0\nload 1\n"+name+"\nstore 0\ndrop\nload 0\nreturn\nend")
		for _, a := range edges() {
			for _, b := range edges() {
				th := started(t, p, 1, number(a), number(b))
				skip(t, th, make([]api.Value, 4)...)
				if b == 0 && (name == "div" || name == "rem") {
					wants(t, th, frames.Want{Kind: frames.Fault, Op: code.Find(name), Fn: 1, Pc: 4, Trap: api.TrapZero})
					continue
				}
				inner(t, th, name, 1, 4)
				runs(t, th, api.Frame{Fn: 1, Pc: 5, Locals: []api.Value{number(a), number(b)}, Stack: []api.Value{number(99), number(reckoned(name, a, b))}})
			}
		}
	}
}

// P17.1: the numbers that the chapter names.
func TestNamedNumbers(t *testing.T) {
	for _, x := range []struct {
		name       string
		a, b, want int64
	}{
		{"div", math.MinInt64, -1, math.MinInt64},
		{"rem", math.MinInt64, -1, 0},
		{"div", -7, 2, -3},
		{"rem", -7, 2, -1},
		{"div", 7, -2, -3},
		{"rem", 7, -2, 1},
		{"add", math.MaxInt64, 1, math.MinInt64},
		{"sub", math.MinInt64, 1, math.MaxInt64},
		{"mul", math.MinInt64, -1, math.MinInt64},
		{"neg", math.MinInt64, 0, math.MinInt64},
	} {
		before := "const " + strconv.FormatInt(x.a, 10)
		if x.name != "neg" {
			before += "\nconst " + strconv.FormatInt(x.b, 10)
		}
		th := begun(t, "func main\n"+lines(before, x.name+"\nout", 0))
		for w, _ := th.Want(); w.Kind != frames.Tell; w, _ = th.Want() {
			done(t, th, api.Value{})
		}
		if w, _ := th.Want(); w.V != number(x.want) || reckoned(x.name, x.a, x.b) != x.want {
			t.Errorf("%s of %d and %d = %v", x.name, x.a, x.b, w.V)
		}
	}
}

// P17.1: neg, const, isnull and same.
func TestOthers(t *testing.T) {
	negs := checked(t, "func main\npoll\nreturn\nend\nfunc f int -> int\npoll\nload 0\nneg\nreturn\nend")
	nones := checked(t, "func main\npoll\nreturn\nend\nfunc f ref -> int\npoll\nload 0\nisnull\nreturn\nend")
	sames := checked(t, "func main\npoll\nreturn\nend\nfunc f ref ref -> int\npoll\nload 0\nload 1\nsame\nreturn\nend")
	for _, a := range edges() {
		th := started(t, negs, 1, number(a))
		skip(t, th, make([]api.Value, 2)...)
		inner(t, th, "neg", 1, 2)
		runs(t, th, api.Frame{Fn: 1, Pc: 3, Locals: []api.Value{number(a)}, Stack: []api.Value{number(reckoned("neg", a, 0))}})
		th = started(t, nones, 1, ref(a))
		skip(t, th, make([]api.Value, 2)...)
		inner(t, th, "isnull", 1, 2)
		runs(t, th, api.Frame{Fn: 1, Pc: 3, Locals: []api.Value{ref(a)}, Stack: []api.Value{number(told(a == 0))}})
		for _, b := range edges() {
			th = started(t, sames, 1, ref(a), ref(b))
			skip(t, th, make([]api.Value, 3)...)
			inner(t, th, "same", 1, 3)
			runs(t, th, api.Frame{Fn: 1, Pc: 4, Locals: []api.Value{ref(a), ref(b)}, Stack: []api.Value{number(told(a == b))}})
		}
		th = begun(t, "func main\n"+lines("", "const "+strconv.FormatInt(a, 10), 1))
		done(t, th, api.Value{})
		inner(t, th, "const", 0, 1)
		runs(t, th, api.Frame{Pc: 2, Stack: []api.Value{number(a)}})
	}
}

// P17.1: what moves values between the stack and the locals.
func TestMoves(t *testing.T) {
	th := begun(t, "func main\nlocals ref int int\npoll\nnull\nconst 5\nswap\ndup\nstore 0\nisnull\ndup\ndrop\nstore 2\nstore 1\nload 2\nload 0\nload 1\nswap\ndrop\ndup\ndrop\ndrop\ndrop\nreturn\nend")
	done(t, th, api.Value{})
	locals := make([]api.Value, 3)
	at := 1
	after := func(name string, stack ...api.Value) {
		t.Helper()
		inner(t, th, name, 0, at)
		at++
		runs(t, th, api.Frame{Pc: at, Locals: locals, Stack: stack})
	}
	after("null", ref(0))
	after("const", ref(0), number(5))
	after("swap", number(5), ref(0))
	after("dup", number(5), ref(0), ref(0))
	locals[0] = ref(0)
	after("store", number(5), ref(0))
	after("isnull", number(5), number(1))
	after("dup", number(5), number(1), number(1))
	after("drop", number(5), number(1))
	locals[2] = number(1)
	after("store", number(5))
	locals[1] = number(5)
	after("store")
	after("load", number(1))
	after("load", number(1), ref(0))
	after("load", number(1), ref(0), number(5))
	after("swap", number(1), number(5), ref(0))
	after("drop", number(1), number(5))
	after("dup", number(1), number(5), number(5))
}

// P17.1: jumps forward and back; jumpif goes on behind itself for 0 alone.
func TestJumps(t *testing.T) {
	text := "func main\npoll\nreturn\nend\nfunc f int\npoll\njump x\ny:\npoll\nload 0\njumpif y\nreturn\nx:\ncollect\nconst 8\nload 0\njumpif z\ndrop\njump y\nz:\ndrop\nreturn\nend"
	p := checked(t, text)
	for _, n := range edges() {
		locals := []api.Value{number(n)}
		th := started(t, p, 1, number(n))
		done(t, th, api.Value{})
		inner(t, th, "jump", 1, 1)
		runs(t, th, api.Frame{Fn: 1, Pc: 6, Locals: locals})
		skip(t, th, make([]api.Value, 3)...)
		inner(t, th, "jumpif", 1, 9)
		if n != 0 {
			runs(t, th, api.Frame{Fn: 1, Pc: 12, Locals: locals, Stack: []api.Value{number(8)}})
			continue
		}
		runs(t, th, api.Frame{Fn: 1, Pc: 10, Locals: locals, Stack: []api.Value{number(8)}})
		done(t, th, api.Value{})
		inner(t, th, "jump", 1, 11)
		runs(t, th, api.Frame{Fn: 1, Pc: 2, Locals: locals})
		skip(t, th, make([]api.Value, 2)...)
		inner(t, th, "jumpif", 1, 4)
		runs(t, th, api.Frame{Fn: 1, Pc: 5, Locals: locals})
	}
	th := begun(t, "func main\npoll\nconst -1\njumpif x\nreturn\nx:\npoll\nconst 2\njumpif x\nreturn\nend")
	skip(t, th, make([]api.Value, 5)...)
	inner(t, th, "jumpif", 0, 6)
	runs(t, th, api.Frame{Pc: 4})
}
