package plain_test

import (
	"slices"
	"testing"

	"windrow/api"
	"windrow/code"
	"windrow/image"
	"windrow/objects"
	"windrow/plain"
	"windrow/verify"
)

// tally counts what was tried.
type tally struct {
	ops, traps              map[int]int
	waits, others, programs int
	threads, cells, frames  int
	results                 int
}

// programs goes through programs without a pattern, of which each is right.
func (s *seed) programs(t *testing.T, most int, body func(c *verify.Checked, p api.Program)) {
	t.Helper()
	tried := 0
	for range most {
		p := s.program()
		c, place, e := verify.Check(p)
		if e == api.ErrBig {
			continue
		}
		if e != api.OK {
			t.Fatalf("%+v: %d at %v", p, e, place)
		}
		tried++
		body(c, p)
	}
	if tried < most/2 {
		t.Errorf("only %d programs of %d", tried, most)
	}
}

// begun: a machine at its beginning.
func begun(t *testing.T, c *verify.Checked, threads int) *plain.Machine {
	t.Helper()
	m, e := plain.New(c, threads)
	if m == nil || e != api.OK {
		t.Fatalf("New = %v, %d", m, e)
	}
	return m
}

// pick: mostly a thread that there is.
func (s *seed) pick(count int) int {
	if s.below(20) == 0 {
		return s.below(9) - 1
	}
	return s.below(count)
}

// P18.1: programs without a pattern, any picks, with and without memory: all is as the model says, behind each pick.
func TestManyPrograms(t *testing.T) {
	s := seed(18)
	count := &tally{ops: map[int]int{}, traps: map[int]int{}}
	s.programs(t, 4000, func(c *verify.Checked, p api.Program) {
		most := 1 + s.below(6)
		m, want := begun(t, c, most), newModel(p, most)
		hold(t, c, m, want)
		for range 400 {
			if want.over() {
				break
			}
			s.both(t, m, want, count)
			hold(t, c, m, want)
			sound(t, c, m)
		}
		count.programs++
		count.threads = max(count.threads, m.Count())
		count.cells = max(count.cells, len(m.Cells()))
	})
	count.check(t)
}

// both: the same pick of a machine and of the model.
func (s *seed) both(t *testing.T, m *plain.Machine, want *model, count *tally) {
	t.Helper()
	i, memory := s.pick(len(want.threads)), s.below(100) > 0
	running := i >= 0 && i < len(want.threads) && want.threads[i].Status == api.Running
	event, ok := want.do(i, memory)
	if got, did := m.Do(i, memory); got != event || did != ok {
		t.Fatalf("Do(%d, %v) = %+v, %v, not %+v, %v", i, memory, got, did, event, ok)
	}
	switch {
	case ok:
		count.ops[event.Op]++
		count.traps[event.Trap]++
		count.frames = max(count.frames, len(want.threads[i].Frames))
		if want.threads[i].Result != 0 {
			count.results++
		}
	case running:
		count.waits++
	default:
		count.others++
	}
}

// check: was all of it tried?
func (c *tally) check(t *testing.T) {
	t.Helper()
	for op := 1; op <= code.Ops; op++ {
		if c.ops[op] < 50 {
			t.Errorf("%s was hardly tried: %d times", code.Name(op), c.ops[op])
		}
	}
	for trap := range api.TrapOutputs { // that one has tests of its own
		if c.traps[trap] < 15 {
			t.Errorf("trap %d was hardly tried: %d times", trap, c.traps[trap])
		}
	}
	if c.waits < 100 || c.others < 100 || c.threads != 6 || c.cells < 50 || c.frames != 12 || c.results < 50 {
		t.Errorf("hardly tried: %+v", c)
	}
}

// sound: is each reference 0 or the name of an object?
func sound(t *testing.T, c *verify.Checked, m *plain.Machine) {
	t.Helper()
	cells := m.Cells()
	right := func(name int64) {
		if name < 0 || name > int64(len(cells)) {
			t.Fatalf("there is no object %d", name)
		}
	}
	for _, name := range m.Globals() {
		right(name)
	}
	for n, x := range cells {
		if x.Addr != int64(n+1) {
			t.Fatalf("object %d is named %d", n+1, x.Addr)
		}
		for i := range c.Table().Pointers(objects.Head(x)) {
			right(x.Words[i])
		}
	}
	for i := range m.Count() {
		th, _ := m.Thread(i)
		for _, f := range th.Frames {
			for _, v := range slices.Concat(f.Locals, f.Stack) {
				if v.Type == api.Ref {
					right(v.N)
				}
			}
		}
	}
}

// P18.3: at each pick of programs without a pattern, references are right, and the image is one that chapter 16 takes.
func TestReferences(t *testing.T) {
	s := seed(183)
	found := 0
	s.programs(t, 1000, func(c *verify.Checked, p api.Program) {
		m := begun(t, c, 6)
		for range 150 {
			m.Do(s.pick(m.Count()), true)
			sound(t, c, m)
			l, e := image.Reach(c.Table(), m.Image())
			if e != api.OK {
				t.Fatalf("Reach(%+v) = %d", m.Image(), e)
			}
			found += len(l)
		}
	})
	if found < 20000 {
		t.Errorf("only %d objects were reached", found)
	}
}

// P18.2: picks of threads that can't go on change nothing, so that leaving them out makes no difference.
func TestPicksInVain(t *testing.T) {
	s := seed(182)
	vain, outputs := 0, 0
	s.programs(t, 1500, func(c *verify.Checked, p api.Program) {
		most := 1 + s.below(6)
		m := begun(t, c, most)
		var events []api.Event
		for range 400 {
			before := whole(m)
			event, ok := m.Do(s.below(9)-1, true)
			if ok {
				events = append(events, event)
				continue
			}
			vain++
			if event != (api.Event{}) || !same(before, whole(m)) {
				t.Fatalf("a pick in vain made %+v of %+v (%+v)", whole(m), before, event)
			}
		}
		other := begun(t, c, most)
		for n, event := range events {
			// Only the picks in vain are missing.
			event.At = n
			if got, ok := other.Do(event.Thread, true); got != event || !ok {
				t.Fatalf("Do(%d) = %+v, %v, not %+v", event.Thread, got, ok, event)
			}
		}
		if !same(whole(m), whole(other)) {
			t.Fatalf("%+v, not %+v", whole(other), whole(m))
		}
		outputs += len(m.Outputs())
	})
	if vain < 10000 || outputs < 500 {
		t.Errorf("hardly tried: %d picks in vain, %d outputs", vain, outputs)
	}
}

// state is what a machine tells, but for the number of picks.
type state struct {
	threads []api.Thread
	outputs []api.Output
	globals []int64
	x       image.Image
}

func whole(m *plain.Machine) state {
	s := state{outputs: m.Outputs(), globals: m.Globals(), x: m.Image()}
	for i := range m.Count() {
		th, _ := m.Thread(i)
		s.threads = append(s.threads, th)
	}
	return s
}

func same(a, b state) bool {
	return slices.EqualFunc(a.threads, b.threads, sameThread) && slices.Equal(a.outputs, b.outputs) && slices.Equal(a.globals, b.globals) &&
		slices.Equal(a.x.Roots, b.x.Roots) && sameCells(a.x.Cells, b.x.Cells)
}

// P18.1: Run and Turns are picks, one behind the other.
func TestManyRuns(t *testing.T) {
	s := seed(181)
	s.programs(t, 400, func(c *verify.Checked, p api.Program) {
		most := 1 + s.below(6)
		m, want := begun(t, c, most), newModel(p, most)
		for range 6 {
			if s.below(2) == 0 {
				s.run(t, m, want)
			} else {
				s.turns(t, m, want)
			}
			hold(t, c, m, want)
		}
	})
}

func (s *seed) run(t *testing.T, m *plain.Machine, want *model) {
	t.Helper()
	var picks []int
	var events []api.Event
	for range s.below(60) {
		i := s.below(9) - 1
		picks = append(picks, i)
		if event, ok := want.do(i, true); ok {
			events = append(events, event)
		}
	}
	if got, e := m.Run(picks); !slices.Equal(got, events) || e != api.OK {
		t.Fatalf("Run(%v) = %+v, %d, not %+v", picks, got, e, events)
	}
}

func (s *seed) turns(t *testing.T, m *plain.Machine, want *model) {
	t.Helper()
	n := s.below(60)
	done, next := 0, 0
	for taken := 0; taken < n && !want.over(); taken++ {
		if _, ok := want.do(next, true); ok {
			done++
		}
		if next++; next == len(want.threads) {
			next = 0
		}
	}
	if got, e := m.Turns(n); got != done || e != api.OK {
		t.Fatalf("Turns(%d) = %d, %d, not %d", n, got, e, done)
	}
}
