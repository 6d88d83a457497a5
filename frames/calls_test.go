package frames_test

import (
	"slices"
	"testing"

	"windrow/api"
	"windrow/code"
	"windrow/frames"
)

// callers call with values under the arguments, and get results of each type.
const callers = `func main
  locals int ref
  poll
  global 0
  const 7
  const 8
  global 1
  call mixed
  drop
  global 2
  call both
  drop
  call none
  drop
  return
end
func mixed int ref -> int
  locals ref
  poll
  load 1
  store 2
  load 0
  return
end
func both int ref -> ref
  poll
  const 3
  call none
  drop
  load 1
  return
end
func none
  poll
  return
end
`

// P17.1: calls and returns, a step at a time.
func TestCalls(t *testing.T) {
	th := begun(t, callers)
	locals := make([]api.Value, 2)
	skip(t, th, api.Value{}, ref(100), api.Value{}, api.Value{}, ref(200))
	inner(t, th, "call", 0, 5)
	// Whoever has called goes on behind the call.
	low := api.Frame{Pc: 6, Locals: locals, Stack: []api.Value{ref(100), number(7)}}
	runs(t, th, low, api.Frame{Fn: 1, Locals: []api.Value{number(8), ref(200), {}}})
	wants(t, th, frames.Want{Kind: frames.Stop, Op: code.Poll, Fn: 1})
	skip(t, th, make([]api.Value, 4)...)
	runs(t, th, low, api.Frame{Fn: 1, Pc: 4, Locals: []api.Value{number(8), ref(200), ref(200)}, Stack: []api.Value{number(8)}})
	inner(t, th, "return", 1, 4)
	low.Stack = append(low.Stack, number(8))
	runs(t, th, low)
	skip(t, th, api.Value{}, ref(300))
	inner(t, th, "call", 0, 8)
	low = api.Frame{Pc: 9, Locals: locals, Stack: []api.Value{ref(100)}}
	skip(t, th, make([]api.Value, 2)...)
	inner(t, th, "call", 2, 2)
	middle := api.Frame{Fn: 2, Pc: 3, Locals: []api.Value{number(7), ref(300)}, Stack: []api.Value{number(3)}}
	runs(t, th, low, middle, api.Frame{Fn: 3})
	done(t, th, api.Value{})
	inner(t, th, "return", 3, 1)
	runs(t, th, low, middle)
	skip(t, th, make([]api.Value, 2)...)
	inner(t, th, "return", 2, 5)
	low.Stack = append(low.Stack, ref(300))
	runs(t, th, low)
	skip(t, th, make([]api.Value, 2)...)
	runs(t, th, api.Frame{Pc: 11, Locals: locals, Stack: []api.Value{ref(100)}}, api.Frame{Fn: 3})
	skip(t, th, make([]api.Value, 2)...)
	runs(t, th, api.Frame{Pc: 11, Locals: locals, Stack: []api.Value{ref(100)}})
	done(t, th, api.Value{})
	wants(t, th, frames.Want{Kind: frames.End, Op: code.Return, Pc: 12, V: number(0)})
}

// deep calls itself as often as its argument says, and adds up.
const deep = `func main
  poll
  return
end
func deep int -> int
  poll
  load 0
  jumpif more
  const 0
  return
more:
  collect
  load 0
  load 0
  const 1
  sub
  call deep
  add
  return
end
`

// P17.1: twelve frames may be, and not one more.
func TestDepth(t *testing.T) {
	p := checked(t, deep)
	for n := range int64(15) {
		th := started(t, p, 1, number(n))
		most := 1
		w, e := th.Want()
		for ; w.Kind != frames.End && w.Kind != frames.Fault && e == api.OK; w, e = th.Want() {
			done(t, th, api.Value{})
			most = max(most, th.Depth())
		}
		if n <= 11 {
			if w.Kind != frames.End || w.V != number(n*(n+1)/2) || most != int(n)+1 || th.Depth() != 1 {
				t.Errorf("%d: %+v, %d frames", n, w, most)
			}
			continue
		}
		wants(t, th, frames.Want{Kind: frames.Fault, Op: code.Call, Fn: 1, Pc: 10, Trap: api.TrapFrames})
		if most != 12 || th.Depth() != 12 {
			t.Errorf("%d frames, and %d", most, th.Depth())
		}
		done(t, th, number(5))
		over(t, th, api.Thread{Status: api.Trapped, Trap: api.TrapFrames})
	}
}

// P17.1, P17.2: the references of all frames: of those below, by the maps of their calls, without the arguments.
func TestRoots(t *testing.T) {
	text := `func main
  locals ref int ref ref
  poll
  global 0
  store 0
  const 5
  store 1
  global 3
  global 4
  const 6
  global 5
  global 6
  call f
  jump on
on:
  drop
  drop
  drop
  drop
  return
end
func f ref ref -> ref
  locals ref
  poll
  load 1
  store 2
  null
  store 0
  null
  load 0
  const 1
  jumpif out
  global 7
  store 2
out:
  poll
  drop
  return
end
`
	th := begun(t, text)
	roots := func(want ...int64) {
		t.Helper()
		if got := th.Roots(); !slices.Equal(got, want) {
			w, _ := th.Want()
			t.Errorf("at %d %d: Roots = %v, not %v", w.Fn, w.Pc, got, want)
		}
	}
	roots()
	skip(t, th, api.Value{}, ref(100))
	roots(100)
	skip(t, th, api.Value{}, api.Value{}, api.Value{}, ref(103), ref(104), api.Value{}, ref(0))
	roots(100, 103, 104, 0)
	done(t, th, ref(106))
	roots(100, 103, 104, 0, 106)
	done(t, th, api.Value{}) // call
	roots(100, 103, 104, 0, 106)
	skip(t, th, make([]api.Value, 3)...)
	roots(100, 103, 104, 0, 106, 106)
	skip(t, th, make([]api.Value, 4)...)
	roots(100, 103, 104, 0, 106, 106, 0, 0)
	skip(t, th, make([]api.Value, 4)...)
	roots(100, 103, 104, 0, 106, 106, 0)
	done(t, th, api.Value{}) // return
	roots(100, 103, 104, 0)
	if e := th.Halt(1); e != api.OK {
		t.Error(e)
	}
	roots()
}

// P17.1: a local that may not be used any more is no root, also in a frame that waits for its call; nor is a local that
// may not be used behind the call alone left out.
func TestRootsOfCalls(t *testing.T) {
	text := `func main
  locals ref ref
  poll
  const 1
  jumpif first
  global 1
  store 1
  jump meet
first:
  collect
  global 2
  store 0
meet:
  call none
  global 3
  store 0
  const 0
  jumpif behind
  call none
behind:
  collect
  return
end
func none
  poll
  return
end
`
	th := begun(t, text)
	skip(t, th, api.Value{}, api.Value{}, api.Value{}, api.Value{}, ref(7), api.Value{})
	// Local 0 holds a reference, but on the other way it may be without one.
	runs(t, th, api.Frame{Pc: 9, Locals: []api.Value{ref(7), {}}})
	if l := th.Roots(); len(l) != 0 {
		t.Errorf("ahead of the call: %v", l)
	}
	done(t, th, api.Value{})
	if l := th.Roots(); len(l) != 0 || th.Depth() != 2 {
		t.Errorf("in the call: %v", l)
	}
	skip(t, th, api.Value{}, api.Value{}, ref(8), api.Value{}, api.Value{}, api.Value{}, api.Value{})
	if l := th.Roots(); !slices.Equal(l, []int64{8}) || th.Depth() != 2 {
		t.Errorf("in the second call: %v", l)
	}
	text = `func main
  locals ref
  poll
  const 1
  jumpif first
  jump meet
first:
  global 1
  store 0
  call none
meet:
  collect
  return
end
func none
  poll
  return
end
`
	th = begun(t, text)
	skip(t, th, api.Value{}, api.Value{}, api.Value{}, ref(9), api.Value{}, api.Value{})
	if l := th.Roots(); !slices.Equal(l, []int64{9}) || th.Depth() != 2 {
		t.Errorf("the local isn't known behind the call, but at it: %v", l)
	}
	skip(t, th, make([]api.Value, 2)...)
	if l := th.Roots(); len(l) != 0 || th.Depth() != 1 {
		t.Errorf("behind the call: %v", l)
	}
}
