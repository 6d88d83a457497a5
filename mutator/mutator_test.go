package mutator_test

import (
	"reflect"
	"slices"
	"testing"

	"windrow/api"
	"windrow/arena"
	"windrow/code"
	"windrow/header"
	"windrow/layout"
	"windrow/mutator"
	"windrow/tlab"
	"windrow/verify"
)

// The chapter's constants.
func TestConstants(t *testing.T) {
	if !slices.Equal([]int{mutator.Absent, mutator.Runs, mutator.Parked, mutator.Served, mutator.Gone}, []int{0, 1, 2, 3, 4}) {
		t.Error("what Status holds")
	}
	if !slices.Equal([]int{mutator.Arm, mutator.Scan, mutator.Blend, mutator.Check, mutator.Quiet, mutator.Off}, []int{1, 2, 3, 4, 5, 6}) {
		t.Error("kinds of handshakes")
	}
}

// P19.1: New, with each error alone and ahead of those that come later.
func TestNew(t *testing.T) {
	c := checked(t, "func main\npoll\nreturn\nend\nfunc work int ref -> int\npoll\nload 0\nreturn\nend\nfunc give -> ref\npoll\nnull\nreturn\nend")
	plan := planned(t, 2, 3, 4)
	h := &host{}
	args := []api.Value{{Type: api.Int, N: 5}, {Type: api.Ref, N: 70}}
	for _, x := range []struct {
		plan layout.Plan
		p    *verify.Checked
		host mutator.Host
		t    int
		fn   int
		args []api.Value
		e    api.Errno
	}{
		{plan, c, h, 0, 0, nil, api.OK},
		{plan, c, h, 2, 1, args, api.OK},
		{plan, nil, h, 0, 0, nil, api.ErrNil},
		{plan, c, nil, 0, 0, nil, api.ErrNil},
		{plan, nil, nil, 9, 9, args, api.ErrNil},
		{plan, c, nil, 9, 9, args, api.ErrNil},
		{plan, nil, h, 9, 9, args, api.ErrNil},
		{plan, c, h, 0, 3, nil, api.ErrFunc},
		{plan, c, h, 0, -1, nil, api.ErrFunc},
		{plan, c, h, 9, 3, args, api.ErrFunc},
		{plan, c, h, 0, 0, args, api.ErrType},
		{plan, c, h, 0, 1, nil, api.ErrType},
		{plan, c, h, 0, 1, args[:1], api.ErrType},
		{plan, c, h, 0, 1, []api.Value{args[1], args[0]}, api.ErrType},
		{plan, c, h, 0, 2, nil, api.ErrType},
		{layout.Plan{}, c, h, 3, 2, nil, api.ErrType},
		{plan, c, h, 3, 0, nil, api.ErrArg},
		{plan, c, h, -1, 0, nil, api.ErrArg},
		{layout.Plan{}, c, h, 0, 0, nil, api.ErrArg},
		{layout.Plan{Pages: 2, Threads: 3}, c, h, 0, 0, nil, api.ErrArg},
		{layout.Plan{Pages: 33, Threads: 3, Ring: 1}, c, h, 0, 0, nil, api.ErrArg},
	} {
		m, e := mutator.New(x.plan, x.p, x.host, x.t, x.fn, x.args)
		if e != x.e || (m == nil) != (e != api.OK) {
			t.Errorf("New(%+v) = %v, %d", x, m, e)
		}
	}
	m, _ := mutator.New(plan, c, h, 2, 1, args)
	args[0].N = 6
	want := api.Thread{Status: api.Running, Frames: []api.Frame{{Fn: 1, Locals: []api.Value{{Type: api.Int, N: 5}, {Type: api.Ref, N: 70}}}}}
	if v := m.View(); v.Status != want.Status || len(v.Frames) != 1 || !reflect.DeepEqual(v.Frames[0].Locals, want.Frames[0].Locals) || v.Frames[0].Fn != 1 || v.Frames[0].Pc != 0 {
		t.Errorf("%+v", v)
	}
	if !slices.Equal(m.Roots(), []int64{70}) || len(m.Flight()) != 0 {
		t.Error(m.Roots(), m.Flight())
	}
	if m.Started() || m.Gone() || m.Barrier() || m.Colour() != tlab.White || m.Seen() != 0 || m.Cycle() != 0 || !m.Retire().Over() {
		t.Errorf("%+v", m)
	}
	args[0].N = 5
	m.View().Frames[0].Locals[0].N = 7
	m.Roots()[0] = 7
	if m.View().Frames[0].Locals[0].N != 5 || m.Roots()[0] != 70 {
		t.Error("a result shares memory with the thread")
	}
}

// P19.1: nil and unmade threads do nothing.
func TestNil(t *testing.T) {
	a, _ := arena.New(200, false)
	p, _ := a.Port(0)
	for _, m := range []*mutator.Mutator{nil, {}} {
		m.Inherit(nil)
		m.Inherit(m)
		m.Start()
		m.Serve(8 + mutator.Scan)
		p.Grant()
		if turn := m.Step(p); turn != (mutator.Turn{}) || !p.Open() || a.Count() != 0 {
			t.Error(turn)
		}
		if m.Gone() || m.Barrier() || m.Colour() != 0 || m.Cycle() != 0 || len(m.Roots()) != 0 || len(m.Flight()) != 0 || m.View().Status != 0 {
			t.Errorf("%+v", m)
		}
		r := m.Retire()
		if !r.Over() || !r.Step(p) || !p.Open() {
			t.Error("a Retire of nothing")
		}
		if m == nil && (m.Seen() != 0 || m.Started()) {
			t.Error(m.Seen(), m.Started())
		}
	}
	s := main(t, "")
	s.m.Inherit(nil)
	if s.m.Step(nil) != (mutator.Turn{}) {
		t.Error("a step without a port")
	}
}

// P19.1: a thread goes on only when it has been started, and with a grant; a step in vain leaves the grant.
func TestStart(t *testing.T) {
	plan := planned(t, 1, 1, 1)
	h := &host{}
	m, _ := mutator.New(plan, checked(t, "func main\npoll\nconst 7\nout\nreturn\nend"), h, 0, 0, nil)
	a, _ := arena.New(plan.Cells(), false)
	p, _ := a.Port(0)
	for range 3 {
		p.Grant()
		if turn := m.Step(p); turn != (mutator.Turn{}) || !p.Open() || m.Started() {
			t.Fatal(turn)
		}
	}
	m.Start()
	if !m.Started() {
		t.Error("it is not started")
	}
	m.Start()
	for range 50 {
		closed, _ := a.Port(0)
		before := m.View()
		if turn := m.Step(closed); turn != (mutator.Turn{}) || !reflect.DeepEqual(before, m.View()) || a.Faults() != 0 {
			t.Fatal(turn)
		}
		p.Grant()
		m.Step(p)
	}
	if !m.Gone() || !m.Started() || !slices.Equal(h.told, []int64{7}) {
		t.Error(m.Gone(), h.told)
	}
}

// Example 1.
func TestExample(t *testing.T) {
	s := stood(t, planned(t, 1, 1, 1), 0, "func main\npoll\nconst 7\nout\nreturn\nend")
	var ops []int
	for range 40 {
		if turn := s.step(); turn.Done {
			ops = append(ops, turn.Event.Op)
		}
	}
	if !s.m.Gone() || s.peek(s.plan.Status(0)) != mutator.Gone || !slices.Equal(s.h.told, []int64{7}) {
		t.Error(s.m.Gone(), s.h.told)
	}
	if !slices.Equal(ops, []int{code.Poll, code.Const, code.Out, code.Return}) {
		t.Error(ops)
	}
	s.still()
}

// P19.1: what each kind of handshake requires is done by Serve, but for what requires the arena.
func TestServe(t *testing.T) {
	s := main(t, "new box\nstore 0\nload 0\nstore 1\nload 0\nsetglobal 0")
	s.upTo("setglobal")
	before := s.a.Image()
	number := uint64(0)
	for range 3 {
		for _, x := range []struct {
			kind    uint64
			barrier bool
			colour  int
		}{
			{mutator.Check, false, tlab.White}, {mutator.Arm, true, tlab.Grey}, {mutator.Check, true, tlab.Grey}, {mutator.Scan, true, tlab.Grey},
			{mutator.Blend, true, tlab.Black}, {mutator.Check, true, tlab.Black}, {mutator.Quiet, false, tlab.Black}, {mutator.Check, false, tlab.Black},
			{mutator.Scan, false, tlab.Black}, {0, false, tlab.Black}, {7, false, tlab.Black},
		} {
			number++
			epoch := 8*number + x.kind
			s.m.Serve(epoch)
			if s.m.Barrier() != x.barrier || s.m.Colour() != x.colour || s.m.Seen() != epoch || s.m.Cycle() != int(number/12) {
				t.Fatalf("behind %d: %v, %d, %d, %d", epoch, s.m.Barrier(), s.m.Colour(), s.m.Seen(), s.m.Cycle())
			}
		}
		number++
		r := s.m.Retire()
		for !r.Over() {
			s.p.Grant()
			r.Step(s.p)
		}
		s.m.Serve(8*number + mutator.Off)
		if s.m.Barrier() || s.m.Colour() != tlab.White || s.m.Seen() != 8*number+mutator.Off || s.m.Cycle() != int(number/12) {
			t.Fatalf("behind %d: %v, %d, %d, %d", number, s.m.Barrier(), s.m.Colour(), s.m.Seen(), s.m.Cycle())
		}
	}
	// Only the Retire touched the arena: the page is given back in the cycle in which it was got.
	entry, _ := header.EncodeEntry(header.Entry{Kind: header.Small, Class: 0})
	before[s.plan.Entry(0)] = entry
	if !slices.Equal(before, s.a.Image()) {
		t.Error("Serve changed a cell")
	}
	if !slices.Equal(s.m.Roots(), []int64{int64(s.plan.Base()), int64(s.plan.Base())}) {
		t.Error(s.m.Roots())
	}
}

// P19.1: Retire gives back the pages that the thread has, whose cells stay allocated; its next object needs a page again.
func TestRetire(t *testing.T) {
	s := main(t, "new box\nstore 0\nnew pair\nstore 1\ncollect\nnew box\nstore 0")
	s.upTo("collect")
	r := s.m.Retire()
	n := 0
	for s.p.Grant(); !r.Step(s.p); s.p.Grant() {
		n++
	}
	if n != 1 || !s.m.Retire().Over() || s.peek(s.plan.Entry(0)) != 1 || s.peek(s.plan.Entry(1)) != 1|2<<2 || s.peek(s.plan.Alloc(0)) != 1 {
		t.Error(n, s.peek(s.plan.Entry(0)), s.peek(s.plan.Entry(1)))
	}
	if event, _ := s.upTo("new"); event.Addr != int64(s.plan.Addr(0, 2)) || s.peek(s.plan.Entry(0)) != 1|1<<6 {
		t.Errorf("%+v", event)
	}
}

// P19.1: a new thread starts like the one that created it.
func TestInherit(t *testing.T) {
	c := checked(t, text("new box\nstore 0"))
	plan := planned(t, 2, 2, 1)
	for cycle := range 3 {
		for last := range 7 {
			h := &host{}
			by, _ := mutator.New(plan, c, h, 0, 0, nil)
			for n := range 6*cycle + last {
				by.Serve(uint64(8*(n+1) + n%6 + 1))
			}
			m, _ := mutator.New(plan, c, h, 1, 0, nil)
			m.Serve(8*99 + mutator.Arm)
			m.Inherit(by)
			if m.Seen() != by.Seen() || m.Barrier() != by.Barrier() || m.Colour() != by.Colour() || m.Cycle() != by.Cycle() || m.Started() {
				t.Errorf("%d, %d: %d, %v, %d, %d", cycle, last, m.Seen(), m.Barrier(), m.Colour(), m.Cycle())
			}
			if by.Cycle() != (6*cycle+last)/6 {
				t.Error(by.Cycle())
			}
			// They go their own ways then.
			seen := by.Seen()
			m.Serve(8*100 + mutator.Check)
			if by.Seen() != seen {
				t.Error("the other one has changed")
			}
		}
	}
}

// P19.1: a thread that has ended or was stopped gives back its pages, stores its result, and then tells that it is gone.
func TestEnd(t *testing.T) {
	for _, x := range []struct {
		program string
		status  int
		trap    int
		result  int64
	}{
		{"func main -> int\npoll\nconst 3\nnewints\ndrop\nconst 30\nnewrefs\ndrop\nconst -5\nreturn\nend", api.Ended, 0, -5},
		{"func main\npoll\nconst 3\nnewints\ndrop\nconst 30\nnewrefs\ndrop\nreturn\nend", api.Ended, 0, 0},
		{"func main -> int\npoll\nconst 3\nnewints\ndrop\nconst 30\nnewrefs\ndrop\nconst 4\nconst 0\ndiv\nreturn\nend", api.Trapped, api.TrapZero, 0},
		{"func main\npoll\nconst 3\nnewints\nconst 30\nnewrefs\nconst 5\nintat\ndrop\ndrop\nreturn\nend", api.Trapped, api.TrapClass, 0},
		{"func main -> int\npoll\nconst 9\nreturn\nend", api.Ended, 0, 9},
		{"func main\npoll\nnull\nlen\ndrop\nreturn\nend", api.Trapped, api.TrapNull, 0},
	} {
		s := stood(t, planned(t, 3, 2, 1), 1, x.program)
		s.poke(s.plan.Result(1), 99)
		for range most {
			if turn := s.step(); turn.Done && s.m.View().Status == x.status {
				if turn.Event.Trap != x.trap {
					t.Errorf("%+v", turn)
				}
				break
			}
		}
		if v := s.m.View(); v.Status != x.status || v.Trap != x.trap || v.Result != x.result || len(v.Frames) != 0 || s.m.Gone() || s.peek(s.plan.Status(1)) != mutator.Runs {
			t.Errorf("%+v", v)
		}
		var l []api.Access
		for !s.m.Gone() {
			if turn := s.step(); !turn.Moved || turn.Done {
				t.Fatalf("%+v", turn)
			}
			l = append(l, s.log...)
			if len(l) > 10 {
				t.Fatal("it isn't gone")
			}
		}
		want := []api.Access{{Who: 1, Kind: api.AccStore, At: s.plan.Result(1), Put: uint64(x.result), Seen: 99, Left: uint64(x.result)}, {Who: 1, Kind: api.AccStore, At: s.plan.Status(1), Put: mutator.Gone, Seen: mutator.Runs, Left: mutator.Gone}}
		if len(l) < 2 || !slices.Equal(l[len(l)-2:], want) {
			t.Errorf("%+v", l)
		}
		for i := range 3 {
			if w := s.peek(s.plan.Entry(i)); w>>6&3 != header.Idle {
				t.Errorf("page %d: %x", i, w)
			}
		}
		s.still()
		if v := s.m.View(); v.Status != x.status || len(s.m.Roots()) != 0 || len(s.m.Flight()) != 0 {
			t.Errorf("%+v", v)
		}
	}
}
