package plain_test

import (
	"math"
	"slices"
	"testing"

	"windrow/api"
	"windrow/code"
)

// forever is a program that never ends.
const forever = "func main\nbegin:\npoll\njump begin\nend\n"

// P18.1: Run takes 65536 picks, and not one more.
func TestRunMany(t *testing.T) {
	m := machine(t, forever, 1)
	if l, e := m.Run(make([]int, 65537)); len(l) != 0 || e != api.ErrBig || m.Picks() != 0 {
		t.Errorf("Run = %d, %d, %d picks", len(l), e, m.Picks())
	}
	stands(t, m, 0, api.Thread{Status: api.Running, Frames: []api.Frame{{}}})
	l, e := m.Run(make([]int, 65536))
	if len(l) != 65536 || e != api.OK || m.Picks() != 65536 {
		t.Fatalf("Run = %d, %d, %d picks", len(l), e, m.Picks())
	}
	for n, event := range l {
		want := api.Event{Op: code.Poll, At: n}
		if n%2 == 1 {
			want = api.Event{Pc: 1, Op: code.Jump, At: n}
		}
		if event != want {
			t.Fatalf("event %d is %+v, not %+v", n, event, want)
		}
	}
	for _, picks := range [][]int{nil, {}} {
		if l, e := m.Run(picks); len(l) != 0 || e != api.OK || m.Picks() != 65536 {
			t.Errorf("Run = %d, %d, %d picks", len(l), e, m.Picks())
		}
	}
}

// P18.1: Run has memory; picks of nobody, or in vain, count and have no event.
func TestRunInVain(t *testing.T) {
	m := machine(t, "class a\nfunc main\npoll\nspawn other\nnew a\ndrop\njoin\nout\nreturn\nend\nfunc other -> int\npoll\nnull\nlen\nreturn\nend\n", 2)
	l, e := m.Run([]int{-1, 1, 0, 6, 0, 2, 0, 0, 0, 0, 1, 1, math.MaxInt, 0, 1, 1, 0, math.MinInt, 0, 0, 0, 1})
	want := []api.Event{
		{Op: code.Poll, At: 2},
		{Pc: 1, Op: code.Spawn, At: 4},
		{Pc: 2, Op: code.New, Addr: 1, At: 6},
		{Pc: 3, Op: code.Drop, At: 7},
		{Thread: 1, Fn: 1, Op: code.Poll, At: 10},
		{Thread: 1, Fn: 1, Pc: 1, Op: code.Null, At: 11},
		{Thread: 1, Fn: 1, Pc: 2, Op: code.Len, Trap: api.TrapNull, At: 14},
		{Pc: 4, Op: code.Join, At: 16},
		{Pc: 5, Op: code.Out, At: 18},
		{Pc: 6, Op: code.Return, At: 19},
	}
	if !slices.Equal(l, want) || e != api.OK || m.Picks() != 22 || !m.Over() {
		t.Errorf("Run = %+v, %d, not %+v; %d picks, over %v", l, e, want, m.Picks(), m.Over())
	}
	puts(t, m, api.Output{})
}

// P18.1: the numbers that Turns takes.
func TestTurnsNumbers(t *testing.T) {
	m := machine(t, forever, 6)
	for _, n := range []int{math.MinInt, -1, 65537, math.MaxInt} {
		if done, e := m.Turns(n); done != 0 || e != api.ErrArg || m.Picks() != 0 {
			t.Errorf("Turns(%d) = %d, %d, %d picks", n, done, e, m.Picks())
		}
	}
	stands(t, m, 0, api.Thread{Status: api.Running, Frames: []api.Frame{{}}})
	picks := 0
	for _, n := range []int{0, 1, 2, 7, 65535, 65536} {
		done, e := m.Turns(n)
		picks += n
		if done != n || e != api.OK || m.Picks() != picks {
			t.Errorf("Turns(%d) = %d, %d, %d picks, not %d", n, done, e, m.Picks(), picks)
		}
	}
}

// tellers begin threads that put out so many numbers and end at different times.
const tellers = `func main
  poll
  const 1
  spawn teller
  drop
  const 3
  spawn teller
  drop
  const 100
  out
  return
end
func teller int
begin:
  poll
  load 0
  out
  load 0
  const 1
  sub
  store 0
  load 0
  jumpif begin
  return
end
`

// P18.1: Turns begins with thread 0, goes on with the next one, takes in those that were begun meanwhile, and stops when
// nobody is running any more; picks of those that have ended count.
func TestTurns(t *testing.T) {
	c := checked(t, tellers)
	m, other := begun(t, c, 3), begun(t, c, 3)
	// Thread 1 is there behind the third pick, thread 2 behind the ninth.
	picks := []int{0, 0, 0, 1, 0, 1, 0, 1, 0, 1, 2}
	for range 27 {
		picks = append(picks, 0, 1, 2)
	}
	l, e := other.Run(picks)
	if e != api.OK {
		t.Fatal(e)
	}
	done, e := m.Turns(65536)
	if done != 48 || e != api.OK || m.Picks() != 92 || !m.Over() {
		t.Fatalf("Turns = %d, %d, %d picks, over %v", done, e, m.Picks(), m.Over())
	}
	if last := (api.Event{Thread: 2, Fn: 1, Pc: 9, Op: code.Return, At: 91}); len(l) != 48 || l[47] != last {
		t.Errorf("%+v", l)
	}
	if !same(whole(m), whole(other)) {
		t.Errorf("%+v, not %+v", whole(m), whole(other))
	}
	puts(t, m, api.Output{Thread: 1, N: 1}, api.Output{Thread: 2, N: 3}, api.Output{N: 100}, api.Output{Thread: 2, N: 2}, api.Output{Thread: 2, N: 1})
	at := m.Picks()
	if done, e := m.Turns(100); done != 0 || e != api.OK || m.Picks() != at {
		t.Errorf("Turns behind the end = %d, %d, %d picks", done, e, m.Picks())
	}
}

// P18.1: each call of Turns begins with thread 0 again.
func TestTurnsAgain(t *testing.T) {
	m := machine(t, "func main\npoll\nspawn other\ndrop\ncall other\nreturn\nend\nfunc other\nbegin:\npoll\njump begin\nend\n", 2)
	skip(t, m, 0, 2)
	for range 5 {
		if done, e := m.Turns(1); done != 1 || e != api.OK {
			t.Fatalf("Turns = %d, %d", done, e)
		}
		stands(t, m, 1, api.Thread{Status: api.Running, Frames: []api.Frame{{Fn: 1}}})
	}
	if done, e := m.Turns(3); done != 3 || e != api.OK {
		t.Fatalf("Turns = %d, %d", done, e)
	}
	stands(t, m, 1, api.Thread{Status: api.Running, Frames: []api.Frame{{Fn: 1, Pc: 1}}})
}

// P18.1: Picks counts all picks, each once; At is how many there were before.
func TestPicks(t *testing.T) {
	m := machine(t, sevens, 1)
	for n, who := range []int{3, -1, 0, 1, 0, 0, 0, 0, 7} {
		event, ok := m.Do(who, n%2 == 0)
		if ok && event.At != n || !ok && event != (api.Event{}) || m.Picks() != n+1 {
			t.Errorf("pick %d: %+v, %v, %d picks", n, event, ok, m.Picks())
		}
	}
	if l, e := m.Run([]int{0, 0}); len(l) != 0 || e != api.OK || m.Picks() != 11 {
		t.Errorf("%v, %d, %d picks", l, e, m.Picks())
	}
}

// P18.2: the same picks have the same outputs; other picks of a program whose threads race may have others.
func TestOutputsByPicks(t *testing.T) {
	c := checked(t, tellers)
	a, b := begun(t, c, 3), begun(t, c, 3)
	var picks []int
	s := seed(5)
	for range 300 {
		picks = append(picks, s.below(3))
	}
	la, ea := a.Run(picks)
	for _, who := range picks {
		vain(t, b, 5)
		b.Do(who, true)
	}
	if len(la) == 0 || ea != api.OK || !a.Over() || !same(whole(a), whole(b)) {
		t.Errorf("%+v, not %+v", whole(b), whole(a))
	}
	// One thread behind the other.
	d := begun(t, c, 3)
	d.Run(slices.Concat(make([]int, 20), slices.Repeat([]int{2}, 40), slices.Repeat([]int{1}, 40)))
	puts(t, d, api.Output{N: 100}, api.Output{Thread: 2, N: 3}, api.Output{Thread: 2, N: 2}, api.Output{Thread: 2, N: 1}, api.Output{Thread: 1, N: 1})
}
