package plain_test

import (
	"math"
	"strconv"
	"testing"

	"windrow/api"
	"windrow/code"
)

// P18.1: spawn adds a thread with its arguments, and puts its number.
func TestSpawn(t *testing.T) {
	m := machine(t, "class a\nfunc main\npoll\nconst -3\nnew a\nspawn other\nout\nreturn\nend\nfunc other int ref -> int\nlocals ref int\npoll\nload 0\nreturn\nend\n", 2)
	skip(t, m, 0, 3)
	vain(t, m, 1)
	does(t, m, api.Event{Pc: 3, Op: code.Spawn})
	if m.Count() != 2 || m.Over() {
		t.Errorf("%d threads, over %v", m.Count(), m.Over())
	}
	stands(t, m, 0, api.Thread{Status: api.Running, Frames: []api.Frame{{Pc: 4, Stack: []api.Value{number(1)}}}})
	stands(t, m, 1, api.Thread{Status: api.Running, Frames: []api.Frame{{Fn: 1, Locals: []api.Value{number(-3), ref(1), {}, {}}}}})
	does(t, m, api.Event{Thread: 1, Fn: 1, Op: code.Poll})
	does(t, m, api.Event{Thread: 1, Fn: 1, Pc: 1, Op: code.Load})
	does(t, m, api.Event{Thread: 1, Fn: 1, Pc: 2, Op: code.Return})
	stands(t, m, 1, api.Thread{Status: api.Ended, Result: -3})
	skip(t, m, 0, 2)
	stands(t, m, 0, api.Thread{Status: api.Ended})
	puts(t, m, api.Output{N: 1})
	if !m.Over() || m.Count() != 2 {
		t.Errorf("%d threads, over %v", m.Count(), m.Over())
	}
}

// P18.1: as many threads as were asked for, those counted that have ended, and TrapThreads at one more.
func TestThreads(t *testing.T) {
	for most := 1; most <= 6; most++ {
		m := machine(t, "func main\nbegin:\npoll\nspawn other\nout\njump begin\nend\nfunc other -> int\npoll\nconst 4\nreturn\nend\n", most)
		for n := 1; n < most; n++ {
			skip(t, m, 0, 4)
			if m.Count() != n+1 {
				t.Fatalf("%d threads", m.Count())
			}
			if n%2 == 0 {
				skip(t, m, n, 3)
			}
			puts(t, m, firstNumbers(n)...)
		}
		skip(t, m, 0, 1)
		does(t, m, api.Event{Pc: 1, Op: code.Spawn, Trap: api.TrapThreads})
		stands(t, m, 0, api.Thread{Status: api.Trapped, Trap: api.TrapThreads})
		if m.Count() != most {
			t.Errorf("%d threads, not %d", m.Count(), most)
		}
		for n := 1; n < most; n++ {
			want := api.Thread{Status: api.Running, Frames: []api.Frame{{Fn: 1}}}
			if n%2 == 0 {
				want = api.Thread{Status: api.Ended, Result: 4}
			}
			stands(t, m, n, want)
		}
		for _, who := range []int{math.MinInt, -1, most, math.MaxInt} {
			vain(t, m, who)
			if th, e := m.Thread(who); !sameThread(th, api.Thread{}) || e != api.ErrArg {
				t.Errorf("Thread(%d) = %+v, %d", who, th, e)
			}
		}
	}
}

// firstNumbers: the numbers from 1 on that the first thread puts out.
func firstNumbers(n int) []api.Output {
	var l []api.Output
	for i := range n {
		l = append(l, api.Output{N: int64(i) + 1})
	}
	return l
}

// P18.1: join waits as long as the other thread is running, and then puts its result.
func TestJoin(t *testing.T) {
	for _, result := range []int64{0, -5, math.MaxInt64, math.MinInt64} {
		m := machine(t, "func main\npoll\nspawn other\njoin\nout\nreturn\nend\nfunc other -> int\npoll\nconst "+strconv.FormatInt(result, 10)+"\nreturn\nend\n", 2)
		skip(t, m, 0, 2)
		for range 3 {
			vain(t, m, 0)
			stands(t, m, 0, api.Thread{Status: api.Running, Frames: []api.Frame{{Pc: 2, Stack: []api.Value{number(1)}}}})
			skip(t, m, 1, 1)
		}
		does(t, m, api.Event{Pc: 2, Op: code.Join})
		stands(t, m, 0, api.Thread{Status: api.Running, Frames: []api.Frame{{Pc: 3, Stack: []api.Value{number(result)}}}})
		skip(t, m, 0, 2)
		puts(t, m, api.Output{N: result})
		if !m.Over() {
			t.Error("not over")
		}
	}
}

// P18.1: join of a thread that has ended before, twice; of one without a result; of one that was trapped.
func TestJoinEnded(t *testing.T) {
	m := machine(t, "func main\npoll\nspawn ends\njoin\nout\nspawn none\njoin\nout\nspawn trapped\njoin\nout\nconst 1\njoin\nout\nreturn\nend\nfunc ends -> int\npoll\nconst 6\nreturn\nend\nfunc none\npoll\nreturn\nend\nfunc trapped -> int\npoll\nnull\nlen\nreturn\nend\n", 4)
	skip(t, m, 0, 2)
	skip(t, m, 1, 3)
	skip(t, m, 0, 3)
	skip(t, m, 2, 2)
	skip(t, m, 0, 3)
	skip(t, m, 3, 2)
	vain(t, m, 0)
	does(t, m, api.Event{Thread: 3, Fn: 3, Pc: 2, Op: code.Len, Trap: api.TrapNull})
	skip(t, m, 0, 6)
	puts(t, m, api.Output{N: 6}, api.Output{N: 0}, api.Output{N: 0}, api.Output{N: 6})
	stands(t, m, 0, api.Thread{Status: api.Ended})
}

// P18.1: TrapJoin for each number that no thread has.
func TestJoinNobody(t *testing.T) {
	for _, n := range []int64{math.MinInt64, -1 << 32, -1, 2, 3, 6, 1 << 32, 1<<32 + 1, math.MaxInt64} {
		m := machine(t, "func main\npoll\nspawn other\ndrop\nconst "+strconv.FormatInt(n, 10)+"\njoin\nout\nreturn\nend\nfunc other\npoll\nreturn\nend\n", 6)
		skip(t, m, 0, 4)
		does(t, m, api.Event{Pc: 4, Op: code.Join, Trap: api.TrapJoin})
		stands(t, m, 0, api.Thread{Status: api.Trapped, Trap: api.TrapJoin})
		stands(t, m, 1, api.Thread{Status: api.Running, Frames: []api.Frame{{Fn: 1}}})
		puts(t, m)
	}
}

// P18.1: threads that wait for themselves, or for one another, are running and wait in vain.
func TestJoinForever(t *testing.T) {
	m := machine(t, "func main\npoll\nconst 0\njoin\nout\nreturn\nend\n", 1)
	if done, e := m.Turns(1000); done != 2 || e != api.OK || m.Over() || m.Picks() != 1000 {
		t.Errorf("Turns = %d, %d, over %v, %d picks", done, e, m.Over(), m.Picks())
	}
	vain(t, m, 0)
	m = machine(t, "func main\npoll\nspawn other\njoin\nout\nreturn\nend\nfunc other\npoll\nconst 0\njoin\nout\nreturn\nend\n", 2)
	if done, e := m.Turns(1000); done != 4 || e != api.OK || m.Over() || m.Picks() != 1000 {
		t.Errorf("Turns = %d, %d, over %v, %d picks", done, e, m.Over(), m.Picks())
	}
	for who := range 2 {
		vain(t, m, who)
		if th, _ := m.Thread(who); th.Status != api.Running {
			t.Errorf("Thread(%d) = %+v", who, th)
		}
	}
}

// P18.1, example 8 of the document: TrapNull stops only that thread.
func TestTrapStopsOne(t *testing.T) {
	m := machine(t, "class a n:int\nfunc main\npoll\nspawn other\nnull\nget a n\nout\ndrop\nreturn\nend\nfunc other\npoll\nconst 3\nout\nreturn\nend\n", 2)
	skip(t, m, 0, 3)
	does(t, m, api.Event{Pc: 3, Op: code.Get, Trap: api.TrapNull})
	stands(t, m, 0, api.Thread{Status: api.Trapped, Trap: api.TrapNull})
	vain(t, m, 0)
	if m.Over() {
		t.Error("over")
	}
	skip(t, m, 1, 4)
	stands(t, m, 1, api.Thread{Status: api.Ended})
	puts(t, m, api.Output{Thread: 1, N: 3})
	if !m.Over() {
		t.Error("not over")
	}
}

// P18.1: what threads share: a global, an object, and who was first at it.
func TestShared(t *testing.T) {
	text := "class a n:int\nfunc main\npoll\nnew a\nsetglobal 0\nspawn other\nspawn other\njoin\nout\njoin\nout\nreturn\nend\nfunc other -> int\npoll\nglobal 0\nconst 0\nconst 1\ncas a n\nreturn\nend\n"
	c := checked(t, text)
	for first := 1; first <= 2; first++ {
		m := begun(t, c, 3)
		skip(t, m, 0, 5)
		skip(t, m, 3-first, 4)
		skip(t, m, first, 6)
		skip(t, m, 3-first, 2)
		skip(t, m, 0, 5)
		stands(t, m, first, api.Thread{Status: api.Ended, Result: 1})
		stands(t, m, 3-first, api.Thread{Status: api.Ended})
		// The last one that was spawned is joined first.
		puts(t, m, api.Output{N: told(first == 2)}, api.Output{N: told(first == 1)})
	}
}

// P18.1: 4096 outputs of all threads together, and TrapOutputs at one more, for each thread.
func TestOutputs(t *testing.T) {
	m := machine(t, "func main\npoll\nspawn other\ndrop\ncall other\nreturn\nend\nfunc other\nlocals int\npoll\nconst 0\nstore 0\nbegin:\npoll\nload 0\nconst 1\nadd\nstore 0\nload 0\nout\njump begin\nend\n", 2)
	var want []api.Output
	picks := 0
	for len(want) < 4096 {
		event, ok := m.Do(picks%2, true)
		picks++
		if !ok && m.Count() == 2 || event.Trap != 0 {
			t.Fatalf("%d outputs: %+v, %v", len(want), event, ok)
		}
		if event.Op == code.Out {
			want = append(want, api.Output{Thread: event.Thread, N: int64(len(want)/2) + 1})
		}
	}
	for i := range 2 {
		before := want[len(want)-2:]
		if before[0].Thread+before[1].Thread != 1 {
			t.Fatalf("the last ones are %v", before)
		}
		th, _ := m.Thread(i)
		for range 20 {
			if th.Frames[len(th.Frames)-1].Pc == 9 {
				break
			}
			skip(t, m, i, 1)
			th, _ = m.Thread(i)
		}
		puts(t, m, want...)
		does(t, m, api.Event{Thread: i, Fn: 1, Pc: 9, Op: code.Out, Trap: api.TrapOutputs})
		stands(t, m, i, api.Thread{Status: api.Trapped, Trap: api.TrapOutputs})
		puts(t, m, want...)
	}
	if !m.Over() {
		t.Error("not over")
	}
}
