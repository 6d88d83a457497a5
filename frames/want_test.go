package frames_test

import (
	"math"
	"slices"
	"strings"
	"testing"

	"windrow/api"
	"windrow/code"
	"windrow/frames"
)

// What stands around the code of the tests' main: classes ahead of it, functions behind it.
const classesText = "class empty\nclass pair a:ref n:int b:ref\n"
const functionsText = "func f ref int ref -> int\npoll\nload 1\nreturn\nend\nfunc g\npoll\nreturn\nend\n"

// row is an instruction ahead of which values were put; what it needs, what it is answered, what it leaves.
type row struct {
	before, instruction string
	want                frames.Want // but for Op and Pc
	answer              api.Value
	left                []api.Value
}

// null in front of an instruction's other values.
func nulls() []row {
	fault := frames.Want{Kind: frames.Fault, Trap: api.TrapNull}
	return []row{
		{before: "null", instruction: "get pair n", want: fault},
		{before: "null", instruction: "get pair b", want: fault},
		{before: "null\nconst 1", instruction: "put pair n", want: fault},
		{before: "null\nglobal 1", instruction: "put pair a", want: fault},
		{before: "null\nconst 1\nconst 2", instruction: "cas pair n", want: fault},
		{before: "null\nglobal 1\nglobal 2", instruction: "cas pair a", want: fault},
		{before: "null", instruction: "len", want: fault},
		{before: "null\nconst 1", instruction: "intat", want: fault},
		{before: "null\nconst -1", instruction: "refat", want: fault},
		{before: "null\nconst 1\nconst 2", instruction: "setint", want: fault},
		{before: "null\nconst 1\nglobal 2", instruction: "setref", want: fault},
	}
}

// sizes of arrays that may not be.
func wrongSizes() []row {
	var l []row
	for _, n := range []string{"-1", "256", "-9223372036854775808", "9223372036854775807", "4294967296"} {
		for _, instruction := range []string{"newints", "newrefs"} {
			l = append(l, row{before: "const " + n, instruction: instruction, want: frames.Want{Kind: frames.Fault, Trap: api.TrapSize}})
		}
	}
	return l
}

func zeros() []row {
	var l []row
	for _, n := range []string{"0", "1", "-9223372036854775808"} {
		for _, instruction := range []string{"div", "rem"} {
			l = append(l, row{before: "const " + n + "\nconst 0", instruction: instruction, want: frames.Want{Kind: frames.Fault, Trap: api.TrapZero}})
		}
	}
	return l
}

// outer: instructions that need something. The global i answers a reference to 1000 + i.
func outer() []row {
	field := func(kind int, index int64) frames.Want {
		return frames.Want{Kind: kind, Class: 1, Object: api.Fields, Ref: 1004, Index: index}
	}
	get := func(index int64, kind int) frames.Want {
		w := field(frames.Read, index)
		w.Type = kind
		return w
	}
	put := func(index int64, v api.Value) frames.Want {
		w := field(frames.Write, index)
		w.V = v
		return w
	}
	cas := func(index int64, expect, v api.Value) frames.Want {
		w := field(frames.Change, index)
		w.Expect, w.V, w.Type = expect, v, api.Int
		return w
	}
	return []row{
		{instruction: "poll", want: frames.Want{Kind: frames.Stop}},
		{instruction: "collect", want: frames.Want{Kind: frames.Gather}},
		{before: "const -5", instruction: "out", want: frames.Want{Kind: frames.Tell, V: number(-5)}},
		{before: "const 3", instruction: "join", want: frames.Want{Kind: frames.Await, Index: 3, Type: api.Int}, answer: number(-8), left: []api.Value{number(-8)}},
		{before: "const -9223372036854775808", instruction: "join", want: frames.Want{Kind: frames.Await, Index: math.MinInt64, Type: api.Int}, answer: number(0), left: []api.Value{number(0)}},
		{before: "global 1\nconst 2\nglobal 3", instruction: "spawn f", want: frames.Want{Kind: frames.Begin, Callee: 1, Args: []api.Value{ref(1001), number(2), ref(1003)}, Type: api.Int}, answer: number(4), left: []api.Value{number(4)}},
		{instruction: "spawn g", want: frames.Want{Kind: frames.Begin, Callee: 2, Type: api.Int}, answer: number(1), left: []api.Value{number(1)}},
		{instruction: "spawn main", want: frames.Want{Kind: frames.Begin, Type: api.Int}, answer: number(5), left: []api.Value{number(5)}},
		{instruction: "global 0", want: frames.Want{Kind: frames.ReadRoot, Type: api.Ref}, answer: ref(0), left: []api.Value{ref(0)}},
		{instruction: "global 7", want: frames.Want{Kind: frames.ReadRoot, Index: 7, Type: api.Ref}, answer: ref(12), left: []api.Value{ref(12)}},
		{before: "global 4", instruction: "setglobal 2", want: frames.Want{Kind: frames.WriteRoot, Index: 2, V: ref(1004)}},
		{before: "null", instruction: "setglobal 7", want: frames.Want{Kind: frames.WriteRoot, Index: 7, V: ref(0)}},
		{instruction: "new empty", want: frames.Want{Kind: frames.Make, Object: api.Fields, Type: api.Ref}, answer: ref(9), left: []api.Value{ref(9)}},
		{instruction: "new pair", want: frames.Want{Kind: frames.Make, Class: 1, Object: api.Fields, Len: 3, Type: api.Ref}, answer: ref(4096), left: []api.Value{ref(4096)}},
		{before: "const 0", instruction: "newints", want: frames.Want{Kind: frames.Make, Object: api.Ints, Type: api.Ref}, answer: ref(1), left: []api.Value{ref(1)}},
		{before: "const 255", instruction: "newints", want: frames.Want{Kind: frames.Make, Object: api.Ints, Len: 255, Type: api.Ref}, answer: ref(1), left: []api.Value{ref(1)}},
		{before: "const 0", instruction: "newrefs", want: frames.Want{Kind: frames.Make, Object: api.Refs, Type: api.Ref}, answer: ref(2), left: []api.Value{ref(2)}},
		{before: "const 255", instruction: "newrefs", want: frames.Want{Kind: frames.Make, Object: api.Refs, Len: 255, Type: api.Ref}, answer: ref(2), left: []api.Value{ref(2)}},
		{before: "global 4", instruction: "get pair a", want: get(0, api.Ref), answer: ref(0), left: []api.Value{ref(0)}},
		{before: "global 4", instruction: "get pair n", want: get(1, api.Int), answer: number(-7), left: []api.Value{number(-7)}},
		{before: "global 4", instruction: "get pair b", want: get(2, api.Ref), answer: ref(6), left: []api.Value{ref(6)}},
		{before: "global 4\nglobal 5", instruction: "put pair a", want: put(0, ref(1005))},
		{before: "global 4\nconst 5", instruction: "put pair n", want: put(1, number(5))},
		{before: "global 4\nnull", instruction: "put pair b", want: put(2, ref(0))},
		{before: "global 4\nglobal 5\nglobal 6", instruction: "cas pair a", want: cas(0, ref(1005), ref(1006)), answer: number(1), left: []api.Value{number(1)}},
		{before: "global 4\nconst 0\nconst -1", instruction: "cas pair n", want: cas(1, number(0), number(-1)), answer: number(0), left: []api.Value{number(0)}},
		{before: "global 4\nnull\nnull", instruction: "cas pair b", want: cas(2, ref(0), ref(0)), answer: number(1), left: []api.Value{number(1)}},
		{before: "global 4", instruction: "len", want: frames.Want{Kind: frames.Length, Ref: 1004, Type: api.Int}, answer: number(255), left: []api.Value{number(255)}},
		{before: "global 4\nconst 8", instruction: "intat", want: frames.Want{Kind: frames.Read, Object: api.Ints, Ref: 1004, Index: 8, Type: api.Int}, answer: number(77), left: []api.Value{number(77)}},
		{before: "global 4\nconst -8", instruction: "refat", want: frames.Want{Kind: frames.Read, Object: api.Refs, Ref: 1004, Index: -8, Type: api.Ref}, answer: ref(77), left: []api.Value{ref(77)}},
		{before: "global 4\nconst 9223372036854775807\nconst 3", instruction: "setint", want: frames.Want{Kind: frames.Write, Object: api.Ints, Ref: 1004, Index: math.MaxInt64, V: number(3)}},
		{before: "global 4\nconst 0\nglobal 3", instruction: "setref", want: frames.Want{Kind: frames.Write, Object: api.Refs, Ref: 1004, V: ref(1003)}},
	}
}

// standsAt brings a thread with two values under those of the row to the row's instruction; the number of that.
func (x row) standsAt(t *testing.T) (*frames.Thread, int) {
	t.Helper()
	before := strings.TrimSuffix("const 99\nglobal 0\n"+x.before, "\n")
	drops := 2 + len(x.left)
	if x.want.Kind == frames.Fault {
		// Behind it there is what there would be without the fault.
		drops = 2 + map[string]int{"get": 1, "cas": 1, "len": 1, "intat": 1, "refat": 1, "newints": 1, "newrefs": 1, "div": 1, "rem": 1}[strings.Fields(x.instruction)[0]]
	}
	th := begun(t, classesText+"func main\n"+lines(before, x.instruction, drops)+functionsText)
	pc := 1 + len(strings.Split(before, "\n"))
	for range pc {
		w, _ := th.Want()
		if w.Kind == frames.ReadRoot {
			done(t, th, ref(1000+w.Index))
		} else {
			done(t, th, api.Value{})
		}
	}
	return th, pc
}

// P17.1: what each instruction that is not Inner needs, and what Done does with each answer.
func TestWants(t *testing.T) {
	for _, x := range outer() {
		th, pc := x.standsAt(t)
		want := x.want
		want.Op, want.Pc = code.Find(strings.Fields(x.instruction)[0]), pc
		wants(t, th, want)
		before := th.View()
		for _, v := range values() {
			if v.Type == want.Type && (v.Type != api.None || v.N == 0) {
				continue
			}
			if e := th.Done(v); e != api.ErrType {
				t.Errorf("%s: Done(%v) = %d", x.instruction, v, e)
			}
			stands(t, th, before)
			wants(t, th, want)
		}
		done(t, th, x.answer)
		runs(t, th, api.Frame{Pc: pc + 1, Stack: append([]api.Value{number(99), ref(1000)}, x.left...)})
	}
}

// P17.1: any number is right as an answer of the right type.
func TestAnswers(t *testing.T) {
	for _, x := range outer() {
		for _, v := range values() {
			if x.want.Type == api.None || v.Type != x.want.Type {
				continue
			}
			th, pc := x.standsAt(t)
			done(t, th, v)
			runs(t, th, api.Frame{Pc: pc + 1, Stack: []api.Value{number(99), ref(1000), v}})
		}
	}
}

// P17.1: faults, of which Done halts the thread, whatever it is given.
func TestFaults(t *testing.T) {
	for _, x := range slices.Concat(nulls(), wrongSizes(), zeros()) {
		for _, v := range values() {
			th, pc := x.standsAt(t)
			want := x.want
			want.Op, want.Pc = code.Find(strings.Fields(x.instruction)[0]), pc
			wants(t, th, want)
			done(t, th, v)
			over(t, th, api.Thread{Status: api.Trapped, Trap: x.want.Trap})
		}
	}
}

// P17.1: Want changes nothing, and a thread at a fault may be halted by another trap.
func TestWantAgain(t *testing.T) {
	for _, x := range append(outer(), nulls()...) {
		th, _ := x.standsAt(t)
		before := th.View()
		first, _ := th.Want()
		for range 3 {
			wants(t, th, first)
			stands(t, th, before)
		}
		if e := th.Halt(api.TrapMemory); e != api.OK {
			t.Errorf("Halt = %d", e)
		}
		over(t, th, api.Thread{Status: api.Trapped, Trap: api.TrapMemory})
	}
}
