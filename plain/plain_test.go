package plain_test

import (
	"math"
	"slices"
	"strings"
	"testing"

	"windrow/api"
	"windrow/asm"
	"windrow/code"
	"windrow/image"
	"windrow/plain"
	"windrow/verify"
)

func number(n int64) api.Value { return api.Value{Type: api.Int, N: n} }

func ref(n int64) api.Value { return api.Value{Type: api.Ref, N: n} }

// checked: the program of a text, in which nothing is wrong.
func checked(t *testing.T, text string) *verify.Checked {
	t.Helper()
	p, line, e := asm.Parse(text)
	if e != api.OK {
		t.Fatalf("Parse(%q): %d in line %d", text, e, line)
	}
	c, place, e := verify.Check(p)
	if e != api.OK {
		t.Fatalf("Check(%q): %d at %v", text, e, place)
	}
	return c
}

// machine: one at its beginning, for a text.
func machine(t *testing.T, text string, threads int) *plain.Machine {
	t.Helper()
	return begun(t, checked(t, text), threads)
}

// does: is a pick, with memory, this event?
func does(t *testing.T, m *plain.Machine, want api.Event) {
	t.Helper()
	want.At = m.Picks()
	if got, ok := m.Do(want.Thread, true); got != want || !ok {
		t.Fatalf("Do(%d) = %+v, %v, not %+v", want.Thread, got, ok, want)
	}
	if m.Picks() != want.At+1 {
		t.Fatalf("%d picks behind %d", m.Picks(), want.At)
	}
}

// vain: does a pick nothing but count, with memory and without?
func vain(t *testing.T, m *plain.Machine, who int) {
	t.Helper()
	for _, memory := range []bool{true, false} {
		before, picks := whole(m), m.Picks()
		if got, ok := m.Do(who, memory); got != (api.Event{}) || ok {
			t.Errorf("Do(%d, %v) = %+v, %v", who, memory, got, ok)
		}
		if !same(before, whole(m)) || m.Picks() != picks+1 {
			t.Errorf("a pick of %d made %+v of %+v, and %d picks of %d", who, whole(m), before, m.Picks(), picks)
		}
	}
}

// skip has a thread do instructions, of which none stops it.
func skip(t *testing.T, m *plain.Machine, who, times int) {
	t.Helper()
	for range times {
		if event, ok := m.Do(who, true); !ok || event.Trap != 0 {
			t.Fatalf("Do(%d) = %+v, %v", who, event, ok)
		}
	}
}

// stands: does a thread stand so?
func stands(t *testing.T, m *plain.Machine, who int, want api.Thread) {
	t.Helper()
	if got, e := m.Thread(who); !sameThread(got, want) || e != api.OK {
		t.Errorf("Thread(%d) = %+v, %d, not %+v", who, got, e, want)
	}
}

// puts: what was put out.
func puts(t *testing.T, m *plain.Machine, want ...api.Output) {
	t.Helper()
	if got := m.Outputs(); !slices.Equal(got, want) {
		t.Errorf("Outputs = %v, not %v", got, want)
	}
}

const sevens = "func main\n poll\n const 7\n out\n return\nend\n"

func TestExample(t *testing.T) {
	m := machine(t, sevens, 1)
	want := []api.Event{{Op: code.Poll}, {Pc: 1, Op: code.Const, At: 1}, {Pc: 2, Op: code.Out, At: 2}, {Pc: 3, Op: code.Return, At: 3}}
	for _, event := range want {
		does(t, m, event)
	}
	vain(t, m, 0)
	puts(t, m, api.Output{N: 7})
	stands(t, m, 0, api.Thread{Status: api.Ended})
	m = machine(t, sevens, 1)
	if l, e := m.Run([]int{0, 0, 0, 0, 0}); !slices.Equal(l, want) || e != api.OK || m.Picks() != 5 {
		t.Errorf("Run = %+v, %d, %d picks", l, e, m.Picks())
	}
	puts(t, m, api.Output{N: 7})
}

// P18.1: what New asks for, in its order.
func TestNew(t *testing.T) {
	c := checked(t, sevens)
	for _, n := range []int{math.MinInt, -1, 0, 1, 2, 3, 4, 5, 6, 7, math.MaxInt} {
		e := api.OK
		if n < 1 || n > 6 {
			e = api.ErrArg
		}
		if m, got := plain.New(c, n); (m != nil) != (e == api.OK) || got != e {
			t.Errorf("New(%d) = %v, %d", n, m, got)
		}
		if m, got := plain.New(nil, n); m != nil || got != api.ErrNil {
			t.Errorf("New(nil, %d) = %v, %d", n, m, got)
		}
	}
	// Nothing was looked over here, so that no function is to begin with.
	if m, e := plain.New(&verify.Checked{}, 1); m != nil || e == api.OK {
		t.Errorf("New of no program = %v, %d", m, e)
	}
}

// P18.1: a machine at its beginning.
func TestBeginning(t *testing.T) {
	text := "func main\n locals int ref\n poll\n return\nend\n"
	m := machine(t, text, 6)
	if m.Count() != 1 || m.Picks() != 0 || m.Over() || len(m.Outputs()) != 0 || len(m.Cells()) != 0 {
		t.Errorf("%d, %d, %v, %v, %v", m.Count(), m.Picks(), m.Over(), m.Outputs(), m.Cells())
	}
	stands(t, m, 0, api.Thread{Status: api.Running, Frames: []api.Frame{{Locals: make([]api.Value, 2)}}})
	if l := m.Globals(); !slices.Equal(l, make([]int64, 8)) {
		t.Errorf("Globals = %v", l)
	}
	if x := m.Image(); !slices.Equal(x.Roots, make([]int64, 8)) || len(x.Cells) != 0 {
		t.Errorf("Image = %+v", x)
	}
}

// noMachine: does one without a thread answer what the chapter says of nil?
func noMachine(t *testing.T, m *plain.Machine) {
	t.Helper()
	for _, i := range []int{math.MinInt, -1, 0, 1, math.MaxInt} {
		for _, memory := range []bool{true, false} {
			if event, ok := m.Do(i, memory); event != (api.Event{}) || ok {
				t.Errorf("Do(%d) = %+v, %v", i, event, ok)
			}
		}
		if th, e := m.Thread(i); !sameThread(th, api.Thread{}) || e != api.ErrArg {
			t.Errorf("Thread(%d) = %+v, %d", i, th, e)
		}
	}
	if m.Count() != 0 || !m.Over() || len(m.Outputs()) != 0 || len(m.Cells()) != 0 || len(m.Image().Cells) != 0 {
		t.Errorf("%d, %v, %v, %v, %v", m.Count(), m.Over(), m.Outputs(), m.Cells(), m.Image())
	}
}

// P18.1, Rule 6: nil machines, and one that no call has made.
func TestNil(t *testing.T) {
	var m *plain.Machine
	noMachine(t, m)
	if m.Picks() != 0 || len(m.Globals()) != 0 || len(m.Image().Roots) != 0 {
		t.Errorf("%d, %v, %v", m.Picks(), m.Globals(), m.Image())
	}
	for _, picks := range [][]int{nil, {0}, make([]int, 65537)} {
		if l, e := m.Run(picks); len(l) != 0 || e != api.ErrNil {
			t.Errorf("Run of %d = %v, %d", len(picks), l, e)
		}
	}
	for _, n := range []int{-1, 0, 5, 65537} {
		if done, e := m.Turns(n); done != 0 || e != api.ErrNil {
			t.Errorf("Turns(%d) = %d, %d", n, done, e)
		}
	}
	m = &plain.Machine{}
	noMachine(t, m)
	if l, e := m.Run([]int{0, 1, -1}); len(l) != 0 || e != api.OK {
		t.Errorf("Run = %v, %d", l, e)
	}
	if done, e := m.Turns(65536); done != 0 || e != api.OK {
		t.Errorf("Turns = %d, %d", done, e)
	}
}

// P18.1: the stop at a trap of the frames, with its place, with memory and without.
func TestFaults(t *testing.T) {
	for _, x := range []struct {
		before, line string
		trap         int
	}{
		{"const 1\nconst 0\n", "div", api.TrapZero},
		{"const 1\nconst 0\n", "rem", api.TrapZero},
		{"const -1\n", "newints", api.TrapSize},
		{"const 256\n", "newrefs", api.TrapSize},
		{"null\n", "get a n", api.TrapNull},
		{"null\nconst 1\n", "put a n", api.TrapNull},
		{"null\nconst 1\nconst 1\n", "cas a n", api.TrapNull},
		{"null\n", "len", api.TrapNull},
		{"null\nconst 1\n", "intat", api.TrapNull},
		{"null\nconst 1\n", "refat", api.TrapNull},
		{"null\nconst 1\nconst 1\n", "setint", api.TrapNull},
		{"null\nconst 1\nnull\n", "setref", api.TrapNull},
	} {
		// Behind it the stack may hold anything, since nothing returns.
		c := checked(t, "class a n:int\nfunc main\npoll\n"+x.before+x.line+"\nbehind:\npoll\njump behind\nend\n")
		for _, memory := range []bool{true, false} {
			m := begun(t, c, 1)
			at := 1 + strings.Count(x.before, "\n")
			skip(t, m, 0, at)
			op, _, _ := strings.Cut(x.line, " ")
			want := api.Event{Pc: at, Op: code.Find(op), Trap: x.trap, At: at}
			if got, ok := m.Do(0, memory); got != want || !ok {
				t.Errorf("%s: %+v, %v, not %+v", x.line, got, ok, want)
			}
			stands(t, m, 0, api.Thread{Status: api.Trapped, Trap: x.trap})
			if !m.Over() || len(m.Cells()) != 0 {
				t.Errorf("%s: over %v, %v", x.line, m.Over(), m.Cells())
			}
			vain(t, m, 0)
		}
	}
}

// P18.1: TrapFrames, in the thirteenth frame's stead.
func TestFrames(t *testing.T) {
	m := machine(t, "func main\n poll\n call main\n return\nend\n", 1)
	for range 11 {
		does(t, m, api.Event{Op: code.Poll})
		does(t, m, api.Event{Pc: 1, Op: code.Call})
	}
	does(t, m, api.Event{Op: code.Poll})
	if th, _ := m.Thread(0); len(th.Frames) != 12 {
		t.Errorf("%d frames", len(th.Frames))
	}
	does(t, m, api.Event{Pc: 1, Op: code.Call, Trap: api.TrapFrames})
	stands(t, m, 0, api.Thread{Status: api.Trapped, Trap: api.TrapFrames})
}

// P18.1: events tell the function and the instruction; Image has the references of all threads and frames.
func TestImage(t *testing.T) {
	m := machine(t, `class a r:ref
class b
func main
  locals ref int ref
  poll
  new a
  store 0
  new b
  setglobal 3
  const 5
  store 1
  new b
  dup
  spawn other
  drop
  null
  new a
  call other
  drop
  drop
  return
end
func other ref
  poll
  const 2
  newrefs
  collect
  drop
  return
end
`, 2)
	skip(t, m, 0, 9)
	does(t, m, api.Event{Pc: 9, Op: code.Spawn})
	skip(t, m, 0, 2)
	does(t, m, api.Event{Pc: 12, Op: code.New, Addr: 4})
	does(t, m, api.Event{Pc: 13, Op: code.Call})
	does(t, m, api.Event{Fn: 1, Op: code.Poll})
	does(t, m, api.Event{Fn: 1, Pc: 1, Op: code.Const})
	does(t, m, api.Event{Fn: 1, Pc: 2, Op: code.NewRefs, Addr: 5})
	does(t, m, api.Event{Thread: 1, Fn: 1, Op: code.Poll})
	want := image.Image{
		// The globals, main's frame, the one that it has called, and the other thread's.
		Roots: []int64{0, 0, 0, 2, 0, 0, 0, 0, 1, 3, 0, 4, 5, 3},
		Cells: []api.Cell{{Addr: 1, Kind: api.Fields, Words: []int64{0}}, {Addr: 2, Class: 1, Kind: api.Fields}, {Addr: 3, Class: 1, Kind: api.Fields}, {Addr: 4, Kind: api.Fields, Words: []int64{0}}, {Addr: 5, Kind: api.Refs, Words: []int64{0, 0}}},
	}
	if x := m.Image(); !slices.Equal(x.Roots, want.Roots) || !sameCells(x.Cells, want.Cells) || !sameCells(m.Cells(), want.Cells) {
		t.Errorf("Image = %+v, not %+v", x, want)
	}
	if l := m.Globals(); !slices.Equal(l, []int64{0, 0, 0, 2, 0, 0, 0, 0}) {
		t.Errorf("Globals = %v", l)
	}
	if done, e := m.Turns(65536); done == 0 || e != api.OK || !m.Over() {
		t.Errorf("Turns = %d, %d", done, e)
	}
	// Nobody refers to most of them any more, but none is freed.
	if x := m.Image(); !slices.Equal(x.Roots, []int64{0, 0, 0, 2, 0, 0, 0, 0}) || len(x.Cells) != 6 || !sameCells(x.Cells[:5], want.Cells) {
		t.Errorf("Image = %+v", x)
	}
}
