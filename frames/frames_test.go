package frames_test

import (
	"math"
	"reflect"
	"slices"
	"strings"
	"testing"

	"windrow/api"
	"windrow/asm"
	"windrow/code"
	"windrow/frames"
	"windrow/verify"
)

func number(n int64) api.Value { return api.Value{Type: api.Int, N: n} }

func ref(n int64) api.Value { return api.Value{Type: api.Ref, N: n} }

// checked: the program of a text, in which nothing is wrong.
func checked(t *testing.T, text string) *verify.Checked {
	t.Helper()
	p, line, e := asm.Parse(text)
	if e != api.OK {
		t.Fatalf("Parse(%q): %d in line %d", text, e, line)
	}
	c, place, e := verify.Check(p)
	if e != api.OK {
		t.Fatalf("Check(%q): %d at %v", text, e, place)
	}
	return c
}

// started: a thread that begins with a function.
func started(t *testing.T, p *verify.Checked, fn int, args ...api.Value) *frames.Thread {
	t.Helper()
	th, e := frames.Start(p, fn, args)
	if th == nil || e != api.OK {
		t.Fatalf("Start(%d, %v) = %v, %d", fn, args, th, e)
	}
	return th
}

// begun: a thread that begins with the first function of a text.
func begun(t *testing.T, text string) *frames.Thread {
	t.Helper()
	return started(t, checked(t, text), 0)
}

// sameWant: are two wants the same? (Nil and empty arguments are.)
func sameWant(a, b frames.Want) bool {
	if !slices.Equal(a.Args, b.Args) {
		return false
	}
	a.Args, b.Args = nil, nil
	return reflect.DeepEqual(a, b)
}

func sameFrame(a, b api.Frame) bool {
	return a.Fn == b.Fn && a.Pc == b.Pc && slices.Equal(a.Locals, b.Locals) && slices.Equal(a.Stack, b.Stack)
}

func sameThread(a, b api.Thread) bool {
	return a.Status == b.Status && a.Trap == b.Trap && a.Result == b.Result && slices.EqualFunc(a.Frames, b.Frames, sameFrame)
}

// wants: does the next instruction need this?
func wants(t *testing.T, th *frames.Thread, want frames.Want) {
	t.Helper()
	if got, e := th.Want(); !sameWant(got, want) || e != api.OK {
		t.Fatalf("Want = %+v, %d, not %+v", got, e, want)
	}
}

func done(t *testing.T, th *frames.Thread, v api.Value) {
	t.Helper()
	if e := th.Done(v); e != api.OK {
		t.Fatalf("Done(%v) = %d", v, e)
	}
}

// stands: does the thread stand so, by all calls that tell it?
func stands(t *testing.T, th *frames.Thread, want api.Thread) {
	t.Helper()
	if got := th.View(); !sameThread(got, want) {
		t.Fatalf("View = %+v, not %+v", got, want)
	}
	if th.Status() != want.Status || th.Trap() != want.Trap || th.Result() != want.Result || th.Depth() != len(want.Frames) {
		t.Fatalf("%d, %d, %d, %d, not %+v", th.Status(), th.Trap(), th.Result(), th.Depth(), want)
	}
}

// runs: is the thread running, with these frames?
func runs(t *testing.T, th *frames.Thread, want ...api.Frame) {
	t.Helper()
	stands(t, th, api.Thread{Status: api.Running, Frames: want})
}

// over: has the thread come to this end, behind which nothing goes on?
func over(t *testing.T, th *frames.Thread, want api.Thread) {
	t.Helper()
	stands(t, th, want)
	if w, e := th.Want(); !sameWant(w, frames.Want{}) || e != api.ErrState {
		t.Errorf("Want = %+v, %d", w, e)
	}
	for _, v := range values() {
		if e := th.Done(v); e != api.ErrState {
			t.Errorf("Done(%v) = %d", v, e)
		}
	}
	for trap := range 14 {
		e := api.ErrState
		if trap < 1 || trap > 10 {
			e = api.ErrArg
		}
		if got := th.Halt(trap); got != e {
			t.Errorf("Halt(%d) = %d, not %d", trap, got, e)
		}
	}
	if l := th.Roots(); len(l) != 0 {
		t.Errorf("Roots = %v", l)
	}
	stands(t, th, want)
}

// values of all types, and of none.
func values() []api.Value {
	var l []api.Value
	for _, kind := range []int{api.None, api.Int, api.Ref, 3, -1, math.MaxInt, math.MinInt} {
		for _, n := range []int64{0, 1, -1, math.MaxInt64, math.MinInt64} {
			l = append(l, api.Value{Type: kind, N: n})
		}
	}
	return l
}

// P17.1: the chapter's example.
func TestExample(t *testing.T) {
	th := begun(t, "func main\npoll\nconst 7\nconst 0\ndiv\nout\nreturn\nend")
	wants(t, th, frames.Want{Kind: frames.Stop, Op: code.Poll})
	done(t, th, api.Value{})
	wants(t, th, frames.Want{Kind: frames.Inner, Op: code.Const, Pc: 1})
	done(t, th, api.Value{})
	wants(t, th, frames.Want{Kind: frames.Inner, Op: code.Const, Pc: 2})
	done(t, th, api.Value{})
	runs(t, th, api.Frame{Pc: 3, Stack: []api.Value{number(7), number(0)}})
	wants(t, th, frames.Want{Kind: frames.Fault, Op: code.Div, Pc: 3, Trap: api.TrapZero})
	done(t, th, api.Value{})
	over(t, th, api.Thread{Status: api.Trapped, Trap: api.TrapZero})
}

// P17.1: the constants are those of the chapter.
func TestKinds(t *testing.T) {
	got := []int{frames.Inner, frames.Make, frames.Read, frames.Write, frames.Change, frames.Length, frames.ReadRoot, frames.WriteRoot, frames.Begin, frames.Await, frames.Tell, frames.Stop, frames.Gather, frames.End, frames.Fault}
	for n, kind := range got {
		if kind != n {
			t.Errorf("constant %d is %d", n, kind)
		}
	}
}

// starters: functions of all kinds of parameters and results.
const starters = `func main
  locals int ref
  poll
  return
end
func two int ref -> int
  locals ref
  poll
  load 0
  return
end
func made ref -> ref
  poll
  load 0
  return
end
func six ref ref int int ref int
  poll
  return
end
`

// P17.1: Start with right arguments, and with wrong ones.
func TestStart(t *testing.T) {
	p := checked(t, starters)
	runs(t, started(t, p, 0), api.Frame{Locals: make([]api.Value, 2)})
	runs(t, started(t, p, 0, []api.Value{}...), api.Frame{Locals: make([]api.Value, 2)})
	runs(t, started(t, p, 1, number(-5), ref(0)), api.Frame{Fn: 1, Locals: []api.Value{number(-5), ref(0), {}}})
	all := []api.Value{ref(1), ref(math.MaxInt64), number(math.MinInt64), number(4), ref(-5), number(6)}
	runs(t, started(t, p, 3, all...), api.Frame{Fn: 3, Locals: all})
	for _, x := range []struct {
		p    *verify.Checked
		fn   int
		args []api.Value
		e    api.Errno
	}{
		{nil, 0, nil, api.ErrNil},
		{nil, 9, []api.Value{{}}, api.ErrNil},
		{&verify.Checked{}, 0, nil, api.ErrFunc},
		{p, -1, nil, api.ErrFunc},
		{p, 4, nil, api.ErrFunc},
		{p, math.MinInt, nil, api.ErrFunc},
		{p, math.MaxInt, []api.Value{{}}, api.ErrFunc},
		{p, 0, []api.Value{{}}, api.ErrType},
		{p, 0, []api.Value{number(0)}, api.ErrType},
		{p, 1, nil, api.ErrType},
		{p, 1, []api.Value{number(1)}, api.ErrType},
		{p, 1, []api.Value{number(1), number(2)}, api.ErrType},
		{p, 1, []api.Value{ref(1), number(2)}, api.ErrType},
		{p, 1, []api.Value{number(1), {}}, api.ErrType},
		{p, 1, []api.Value{number(1), {Type: 3}}, api.ErrType},
		{p, 1, []api.Value{number(1), ref(2), ref(3)}, api.ErrType},
		{p, 2, []api.Value{ref(1)}, api.ErrType},
		{p, 2, nil, api.ErrType},
		{p, 3, all[:5], api.ErrType},
		{p, 3, append(slices.Clone(all), number(1)), api.ErrType},
	} {
		if th, e := frames.Start(x.p, x.fn, x.args); th != nil || e != x.e {
			t.Errorf("Start(%d, %v) = %v, %d, not %d", x.fn, x.args, th, e, x.e)
		}
	}
}

// P17.1: a thread that is nil, and one that Start has not made.
func TestNothing(t *testing.T) {
	for th, e := range map[*frames.Thread]api.Errno{nil: api.ErrNil, {}: api.ErrState} {
		if w, got := th.Want(); !sameWant(w, frames.Want{}) || got != e {
			t.Errorf("Want = %+v, %d", w, got)
		}
		for _, v := range values() {
			if got := th.Done(v); got != e {
				t.Errorf("Done(%v) = %d", v, got)
			}
		}
		if got := th.Halt(1); got != e {
			t.Errorf("Halt = %d", got)
		}
		stands(t, th, api.Thread{})
		if l := th.Roots(); len(l) != 0 {
			t.Errorf("Roots = %v", l)
		}
	}
	var th *frames.Thread
	if th.Halt(0) != api.ErrNil || th.Halt(11) != api.ErrNil {
		t.Error("of nil, ErrNil comes first")
	}
}

// P17.1: Halt with each trap, and with numbers that are none.
func TestHalt(t *testing.T) {
	p := checked(t, "func main\nlocals ref\npoll\nglobal 0\nstore 0\nreturn\nend")
	for trap := 1; trap <= 10; trap++ {
		th := started(t, p, 0)
		done(t, th, api.Value{})
		done(t, th, ref(5))
		before := th.View()
		for _, none := range []int{0, -1, 11, 12, math.MaxInt, math.MinInt} {
			if e := th.Halt(none); e != api.ErrArg {
				t.Errorf("Halt(%d) = %d", none, e)
			}
			stands(t, th, before)
		}
		if e := th.Halt(trap); e != api.OK {
			t.Errorf("Halt(%d) = %d", trap, e)
		}
		over(t, th, api.Thread{Status: api.Trapped, Trap: trap})
	}
}

// P17.1: ends with results and without.
func TestEnds(t *testing.T) {
	p := checked(t, starters+"func last int -> int\npoll\nload 0\nreturn\nend")
	th := started(t, p, 0)
	done(t, th, api.Value{})
	wants(t, th, frames.Want{Kind: frames.End, Op: code.Return, Pc: 1, V: number(0)})
	done(t, th, api.Value{})
	over(t, th, api.Thread{Status: api.Ended})
	for _, n := range []int64{0, 1, -1, math.MaxInt64, math.MinInt64} {
		th = started(t, p, 4, number(n))
		done(t, th, api.Value{})
		done(t, th, api.Value{})
		wants(t, th, frames.Want{Kind: frames.End, Op: code.Return, Fn: 4, Pc: 2, V: number(n)})
		before := th.View()
		for _, v := range values() {
			if v != (api.Value{}) {
				if e := th.Done(v); e != api.ErrType {
					t.Errorf("Done(%v) = %d", v, e)
				}
				stands(t, th, before)
			}
		}
		done(t, th, api.Value{})
		over(t, th, api.Thread{Status: api.Ended, Result: n})
	}
}

// lines: a function's code, whose values that are left are dropped.
func lines(before, instruction string, left int) string {
	return "poll\n" + before + "\n" + instruction + "\n" + strings.Repeat("drop\n", left) + "return\nend\n"
}
