package frames_test

import (
	"slices"
	"testing"

	"windrow/api"
	"windrow/code"
	"windrow/frames"
	"windrow/verify"
)

// tally counts what was tried.
type tally struct {
	ops, kinds, traps map[int]int
	deepest, held     int
}

// begin: a thread of any function that a thread may begin with, and the same as a model.
func (s *seed) begin(t *testing.T, c *verify.Checked, p api.Program) (*frames.Thread, *model) {
	t.Helper()
	fn := s.below(len(p.Funcs))
	if p.Funcs[fn].Result == api.Ref {
		fn = 0
	}
	var args []api.Value
	for _, kind := range p.Funcs[fn].Params {
		args = append(args, s.value(kind))
	}
	return started(t, c, fn, args...), newModel(p, fn, args)
}

// hold holds a thread against the model.
func hold(t *testing.T, c *verify.Checked, th *frames.Thread, m *model, count *tally) {
	t.Helper()
	stands(t, th, m.Thread)
	want := m.roots(t, c)
	if got := th.Roots(); !slices.Equal(got, want) {
		t.Fatalf("Roots of %+v = %v, not %v", m.Frames, got, want)
	}
	count.deepest = max(count.deepest, len(m.Frames))
	count.held = max(count.held, len(want))
}

// run has a thread and its model do the same instructions with the same answers.
func (s *seed) run(t *testing.T, c *verify.Checked, p api.Program, count *tally) {
	t.Helper()
	th, m := s.begin(t, c, p)
	hold(t, c, th, m, count)
	for range 300 {
		want := m.want()
		wants(t, th, want)
		count.ops[want.Op]++
		count.kinds[want.Kind]++
		if s.below(10) == 0 && want.Kind != frames.Fault {
			if e := th.Done(api.Value{Type: (want.Type + 1 + s.below(2)) % 3, N: 1}); e != api.ErrType {
				t.Fatalf("%+v: Done of another type = %d", want, e)
			}
			hold(t, c, th, m, count)
		}
		answer := s.value(want.Type)
		done(t, th, answer)
		m.done(answer)
		hold(t, c, th, m, count)
		if m.Status != api.Running {
			count.traps[m.Trap]++
			over(t, th, m.Thread)
			return
		}
	}
}

// P17.1, P17.2: programs without a pattern, whose threads get any answers of the right types.
func TestManyPrograms(t *testing.T) {
	s := seed(17)
	count := &tally{ops: map[int]int{}, kinds: map[int]int{}, traps: map[int]int{}}
	tried := 0
	for range 1500 {
		p := s.program()
		c, place, e := verify.Check(p)
		if e == api.ErrBig {
			continue
		}
		if e != api.OK {
			t.Fatalf("%+v: %d at %v", p, e, place)
		}
		for range 3 {
			tried++
			s.run(t, c, p, count)
		}
	}
	for op := 1; op <= code.Ops; op++ {
		if count.ops[op] < 100 {
			t.Errorf("%s was hardly tried: %d times", code.Name(op), count.ops[op])
		}
	}
	for kind := frames.Inner; kind <= frames.Fault; kind++ {
		if count.kinds[kind] < 100 {
			t.Errorf("kind %d was hardly tried: %d times", kind, count.kinds[kind])
		}
	}
	for _, trap := range []int{0, api.TrapNull, api.TrapZero, api.TrapFrames, api.TrapSize} {
		if count.traps[trap] < 30 {
			t.Errorf("trap %d was hardly tried: %d times", trap, count.traps[trap])
		}
	}
	if count.deepest != 12 || count.held < 20 || tried < 1000 {
		t.Errorf("hardly tried: %d frames, %d references, %d threads", count.deepest, count.held, tried)
	}
}
