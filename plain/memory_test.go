package plain_test

import (
	"math"
	"slices"
	"testing"

	"windrow/api"
	"windrow/code"
	"windrow/plain"
	"windrow/verify"
)

// spoil writes over all of a list, also over its spare capacity.
func spoil[T any](l []T, v T) {
	l = l[:cap(l)]
	for i := range l {
		l[i] = v
	}
}

// spoilCells writes over objects, and over their words.
func spoilCells(l []api.Cell) {
	for _, c := range l {
		spoil(c.Words, -9)
	}
	spoil(l, api.Cell{Addr: -9, Class: -9, Kind: -9})
}

// spoilAll writes over all that a machine has told.
func spoilAll(m *plain.Machine) {
	spoil(m.Outputs(), api.Output{Thread: -9, N: -9})
	spoil(m.Globals(), -9)
	spoilCells(m.Cells())
	x := m.Image()
	spoil(x.Roots, -9)
	spoilCells(x.Cells)
	for i := range m.Count() {
		th, _ := m.Thread(i)
		for _, f := range th.Frames {
			spoil(f.Locals, api.Value{Type: 9, N: -9})
			spoil(f.Stack, api.Value{Type: 9, N: -9})
		}
		spoil(th.Frames, api.Frame{Fn: -9, Pc: -9})
	}
}

// kept: a copy of what a machine has told.
func kept(s state) state {
	s.threads = slices.Clone(s.threads)
	for i, th := range s.threads {
		s.threads[i].Frames = slices.Clone(th.Frames)
		for n, f := range th.Frames {
			s.threads[i].Frames[n].Locals, s.threads[i].Frames[n].Stack = slices.Clone(f.Locals), slices.Clone(f.Stack)
		}
	}
	s.outputs, s.globals, s.x.Roots = slices.Clone(s.outputs), slices.Clone(s.globals), slices.Clone(s.x.Roots)
	s.x.Cells = slices.Clone(s.x.Cells)
	for i, c := range s.x.Cells {
		s.x.Cells[i].Words = slices.Clone(c.Words)
	}
	return s
}

// P18.4: what a machine tells shares no memory with it, and stays as it is when the machine goes on.
func TestResultsApart(t *testing.T) {
	s := seed(184)
	outputs, cells := 0, 0
	s.programs(t, 400, func(c *verify.Checked, p api.Program) {
		m, want := begun(t, c, 6), newModel(p, 6)
		for range 120 {
			spoilAll(m)
			hold(t, c, m, want)
			told := whole(m)
			before, cells1 := kept(told), m.Cells()
			cells2 := kept(state{x: m.Image()}).x.Cells
			i := s.pick(m.Count())
			event, ok := m.Do(i, true)
			if e, did := want.do(i, true); e != event || did != ok {
				t.Fatalf("Do(%d) = %+v, %v, not %+v, %v", i, event, ok, e, did)
			}
			if !same(told, before) || !sameCells(cells1, cells2) {
				t.Fatalf("%+v, %+v became %+v, %+v", before, cells2, told, cells1)
			}
		}
		outputs, cells = outputs+len(m.Outputs()), cells+len(m.Cells())
	})
	if outputs < 50 || cells < 500 {
		t.Errorf("hardly tried: %d outputs, %d objects", outputs, cells)
	}
}

// P18.4: no two lists of one result share memory, and no two results.
func TestResultsApartFromOneAnother(t *testing.T) {
	m := machine(t, "func main\npoll\nconst 2\nnewints\nsetglobal 0\nconst 2\nnewints\nsetglobal 1\nconst 1\nout\nreturn\nend\n", 1)
	m.Turns(100)
	a, b, x, y := m.Cells(), m.Cells(), m.Image(), m.Image()
	spoil(a[0].Words, -9)
	spoil(x.Cells[0].Words, -9)
	spoil(x.Roots, -9)
	want := []api.Cell{{Addr: 1, Kind: api.Ints, Words: []int64{0, 0}}, {Addr: 2, Kind: api.Ints, Words: []int64{0, 0}}}
	if !sameCells(b, want) || !sameCells(y.Cells, want) || !sameCells(a[1:], want[1:]) || !sameCells(x.Cells[1:], want[1:]) {
		t.Errorf("%v, %v, %v, %v", a, b, x, y)
	}
	if roots := []int64{1, 2, 0, 0, 0, 0, 0, 0}; !slices.Equal(y.Roots, roots) || !slices.Equal(m.Globals(), roots) {
		t.Errorf("%v, %v", y.Roots, m.Globals())
	}
	o := m.Outputs()
	spoil(o, api.Output{Thread: -9})
	puts(t, m, api.Output{N: 1})
}

// P18.4, Rule 4: Run neither changes nor keeps its picks, also in their spare capacity; events are new memory.
func TestPicksStay(t *testing.T) {
	m := machine(t, forever, 1)
	all := []int{0, 3, 0, -1, 77, 77}
	l, e := m.Run(all[:4])
	if !slices.Equal(all, []int{0, 3, 0, -1, 77, 77}) || len(l) != 2 || e != api.OK {
		t.Errorf("%v, %v, %d", all, l, e)
	}
	spoil(all, -9)
	first := slices.Clone(l)
	if next, _ := m.Run([]int{0, 0}); len(next) != 2 || next[0].At != 4 || !slices.Equal(l, first) {
		t.Errorf("%v, %v", next, l)
	}
	spoil(l, api.Event{Thread: -9})
	if next, _ := m.Run([]int{0}); !slices.Equal(next, []api.Event{{Op: code.Poll, At: 6}}) {
		t.Errorf("%v", next)
	}
}

// Rule 4: a checked program stays, and two machines of one share nothing.
func TestMachinesApart(t *testing.T) {
	text := "class a n:int\nfunc main\nlocals ref\npoll\nnew a\nstore 0\nload 0\nsetglobal 0\nload 0\nconst 5\nput a n\nload 0\nget a n\nout\nspawn other\njoin\nout\nreturn\nend\nfunc other -> int\npoll\nconst 4\nreturn\nend\n"
	c := checked(t, text)
	before := c.Program()
	a, b := begun(t, c, 2), begun(t, c, 2)
	spoilAll(a)
	fresh := kept(whole(b))
	if done, e := a.Turns(100); done == 0 || e != api.OK || !a.Over() {
		t.Fatalf("Turns = %d, %d", done, e)
	}
	if !same(whole(b), fresh) || b.Picks() != 0 || b.Count() != 1 {
		t.Errorf("%+v, not %+v", whole(b), fresh)
	}
	if done, e := b.Turns(100); done == 0 || e != api.OK || !same(whole(a), whole(b)) {
		t.Errorf("Turns = %d, %d; %+v, not %+v", done, e, whole(b), whole(a))
	}
	if !code.Equal(before, c.Program()) {
		t.Errorf("the program is now %+v", c.Program())
	}
	puts(t, b, api.Output{N: 5}, api.Output{N: 4})
	// A call that answers an error has changed nothing.
	end := kept(whole(b))
	picks := b.Picks()
	b.Run(make([]int, 65537))
	b.Turns(-1)
	b.Turns(65537)
	b.Thread(math.MinInt)
	if !same(whole(b), end) || b.Picks() != picks {
		t.Errorf("%+v, not %+v", whole(b), end)
	}
}
