package world_test

import (
	"math"
	"slices"
	"testing"

	"windrow/api"
	"windrow/code"
	"windrow/layout"
	"windrow/world"
)

// plainText makes an object and puts a number out.
const plainText = "class a n:int\nfunc main -> int\npoll\nnew a\nsetglobal 2\nconst 7\nout\nconst -5\nreturn\nend\n"

// New: nothing where a program must be, and each number that may not be.
func TestNewErrors(t *testing.T) {
	c := checked(t, plainText)
	for _, cfg := range []world.Config{tight(1, 1), {}, {Pages: 99}} {
		if w, e := world.New(nil, cfg); w != nil || e != api.ErrNil {
			t.Errorf("%+v: %v, %d", cfg, w, e)
		}
	}
	for _, n := range []int{-1, 0, 65, math.MinInt64, math.MaxInt64} {
		for i, cfg := range []world.Config{tight(n, 1), tight(1, n), {Pages: 1, Threads: 1, Ring: n, Marks: 1}, {Pages: 1, Threads: 1, Ring: 1, Marks: n, Keep: true}} {
			if w, e := world.New(c, cfg); w != nil || e != api.ErrArg {
				t.Errorf("%d %+v: %v, %d", i, cfg, w, e)
			}
		}
	}
	for _, cfg := range []world.Config{tight(33, 1), tight(1, 7), {Pages: 1, Threads: 1, Ring: 17, Marks: 1}} {
		if w, e := world.New(c, cfg); w != nil || e != api.ErrArg {
			t.Errorf("%+v: %v, %d", cfg, w, e)
		}
	}
}

// New: all cells are 0 but for Count and the first thread's Status, and nothing has happened.
func TestNew(t *testing.T) {
	c := checked(t, plainText)
	for _, cfg := range []world.Config{tight(1, 1), {Pages: 32, Threads: 6, Ring: 16, Marks: 64}, {Pages: 5, Threads: 3, Ring: 2, Marks: 9, Keep: true}} {
		w := made(t, c, cfg)
		plan, _ := layout.New(cfg.Pages, cfg.Threads, cfg.Ring)
		cells := make([]uint64, plan.Cells())
		cells[layout.Count], cells[plan.Status(0)] = 1, 1
		if !slices.Equal(w.Image(), cells) || w.Plan() != plan {
			t.Errorf("%+v: %v, %v", cfg, w.Image(), w.Plan())
		}
		if w.Count() != 1 || w.Picks() != 0 || w.Accesses() != 0 || w.Faults() != 0 || w.Freed() != 0 || w.Over() || len(w.Outputs())+len(w.Events())+len(w.Log()) != 0 {
			t.Errorf("%+v: it isn't at its beginning", cfg)
		}
		v, e := w.View()
		frame := api.Frame{Fn: 0, Pc: 0}
		if e != api.OK || v.Phase+v.Cycle+v.Cycles != 0 || len(v.Threads) != 1 || v.Threads[0].Status != api.Running || !sameFrame(v.Threads[0].Frames[0], frame) {
			t.Errorf("%+v, %d", v, e)
		}
		if nothing := make([]int64, 8); !slices.Equal(v.Globals, nothing) || !slices.Equal(v.Roots, nothing) || len(v.Flight)+len(v.Cells)+len(v.Marked) != 0 {
			t.Errorf("%+v", v)
		}
	}
}

// Each instruction takes effect by one pick, which its event tells; the others have none.
func TestPick(t *testing.T) {
	w := made(t, checked(t, plainText), tight(1, 1))
	var events []api.Event
	for at := range 200 {
		accesses := w.Accesses()
		turn := w.Pick(0)
		if w.Picks() != at+1 || turn.Access != (w.Accesses() == accesses+1) || turn.Done != (turn.Event.Op != 0) || turn.Done && turn.Event.At != at {
			t.Fatalf("%+v", turn)
		}
		if turn.Moved == w.Over() && !turn.Access {
			t.Fatalf("%+v", turn)
		}
		if turn.Done {
			events = append(events, turn.Event)
		}
	}
	var ops []string
	for i, e := range events {
		ops = append(ops, code.Name(e.Op))
		if e.Thread != 0 || e.Fn != 0 || e.Pc != i || e.Trap != 0 || (e.Addr != 0) != (i == 1) {
			t.Errorf("%+v", e)
		}
	}
	if !slices.Equal(ops, []string{"poll", "new", "setglobal", "const", "out", "const", "return"}) || !slices.Equal(w.Events(), events) {
		t.Error(ops)
	}
	made := events[1].Addr
	v, _ := w.View()
	if !slices.Equal(v.Globals, []int64{0, 0, made, 0, 0, 0, 0, 0}) || !slices.Equal(v.Roots, v.Globals) || v.Threads[0].Result != -5 || v.Threads[0].Status != api.Ended {
		t.Errorf("%+v", v)
	}
	if len(v.Cells) != 1 || v.Cells[0].Addr != made || v.Cells[0].Kind != api.Fields || v.Cells[0].Class != 0 || !slices.Equal(v.Cells[0].Words, []int64{0}) {
		t.Errorf("%+v", v.Cells)
	}
	if !w.Over() || !slices.Equal(w.Outputs(), []api.Output{{N: 7}}) || w.Image()[w.Plan().Result(0)] != 1<<64-5 || w.Image()[w.Plan().Status(0)] != 4 {
		t.Error(w.Over(), w.Outputs())
	}
	// A collector always does something.
	if turn := w.Pick(world.Gatherer); turn != (world.Turn{Moved: true, Access: true}) || w.Picks() != 201 {
		t.Errorf("%+v", turn)
	}
}

// idle: picks that may do nothing, but are counted.
func idle(t *testing.T, w *world.World, who ...int) {
	t.Helper()
	for _, i := range who {
		before, picks, accesses := w.Image(), w.Picks(), w.Accesses()
		if turn := w.Pick(i); turn != (world.Turn{}) || w.Picks() != picks+1 || w.Accesses() != accesses || !slices.Equal(w.Image(), before) {
			t.Errorf("pick of %d: %+v", i, turn)
		}
	}
}

// Nobody is there, may go on, or has anything to wait for: nothing is done.
func TestPickNobody(t *testing.T) {
	w := made(t, checked(t, "func main -> int\nlocals int\npoll\nspawn other\nstore 0\nload 0\njoin\nreturn\nend\nfunc other -> int\npoll\nconst 4\nreturn\nend\n"), tight(1, 3))
	wrong := []int{-1, 7, 8, 15, math.MinInt64, math.MaxInt64, 1 << 32}
	idle(t, w, append(wrong, 1, 2, 3, 5)...)
	for !w.Pick(0).Done || w.Count() == 1 {
	}
	// The new thread is there, and may not go on yet.
	idle(t, w, append(wrong, 1, 2)...)
	for range 20 {
		w.Pick(0)
	}
	if v, _ := w.View(); v.Threads[0].Status != api.Joining {
		t.Fatalf("%+v", v.Threads)
	}
	idle(t, w, append(wrong, 0, 0, 2)...)
	for range 20 {
		w.Pick(1)
	}
	idle(t, w, 1)
	for range 20 {
		w.Pick(0)
	}
	idle(t, w, append(wrong, 0, 1, 2)...)
	v, _ := w.View()
	if !w.Over() || v.Threads[0].Result != 4 || v.Threads[1].Result != 4 {
		t.Errorf("%+v", v.Threads)
	}
}

// Run: so many picks, and how many instructions took effect; too many are none.
func TestRun(t *testing.T) {
	c := checked(t, "func main\npoll\nconst 7\nout\nmore:\npoll\njump more\nend\n")
	w := made(t, c, tight(1, 1))
	picks := []int{0, 0, -1, 7, 0, 6, 6, 1, 0, 0}
	kept := slices.Clone(picks)
	if n, e := w.Run(picks); n != 5 || e != api.OK || w.Picks() != 10 || w.Accesses() != 4 || !slices.Equal(picks, kept) {
		t.Error(n, e, w.Picks(), w.Accesses())
	}
	for _, l := range [][]int{nil, {}} {
		if n, e := w.Run(l); n != 0 || e != api.OK || w.Picks() != 10 {
			t.Error(n, e)
		}
	}
	before := w.Image()
	if n, e := w.Run(make([]int, api.MaxPicks+1)); n != 0 || e != api.ErrBig || w.Picks() != 10 || !slices.Equal(before, w.Image()) {
		t.Error(n, e)
	}
	if n, e := w.Run(make([]int, api.MaxPicks)); n != api.MaxPicks || e != api.OK || w.Picks() != 10+api.MaxPicks {
		t.Error(n, e)
	}
}

// Turns: each thread that is there by then, and then the collector; each call begins with the first thread.
func TestTurns(t *testing.T) {
	each(t, 60, func(t *testing.T, s *seed) {
		cfg := s.config()
		c := s.checked(t, cfg.Threads)
		w, other := made(t, c, cfg), made(t, c, cfg)
		for range 4 {
			most := s.below(2000)
			count := 0
			for next := 0; count < most && !other.Over(); count++ {
				if next < other.Count() {
					other.Pick(next)
					next++
				} else {
					other.Pick(world.Gatherer)
					next = 0
				}
			}
			if got, e := w.Turns(most); got != count || e != api.OK {
				t.Fatal(got, e, count)
			}
			alike(t, w, other)
		}
	})
}

func TestTurnsLimits(t *testing.T) {
	w := made(t, checked(t, "func main\npoll\nmore:\npoll\njump more\nend\n"), tight(1, 1))
	for _, n := range []int{-1, api.MaxPicks + 1, math.MinInt64, math.MaxInt64} {
		if got, e := w.Turns(n); got != 0 || e != api.ErrArg || w.Picks() != 0 {
			t.Error(n, got, e)
		}
		if got, e := w.Finish(n); got != 0 || e != api.ErrArg || w.Picks() != 0 {
			t.Error(n, got, e)
		}
	}
	for _, n := range []int{0, 1, 2, 3, api.MaxPicks} {
		picks := w.Picks()
		if got, e := w.Turns(n); got != n || e != api.OK || w.Picks() != picks+n {
			t.Error(n, got, e)
		}
	}
}

// Outputs: there is room for 4096; the thread that puts out more is stopped, and it alone.
func TestOutputs(t *testing.T) {
	w := made(t, checked(t, "func main\npoll\nspawn other\ndrop\nmore:\npoll\nconst 5\nout\njump more\nend\nfunc other\npoll\nmore:\npoll\njump more\nend\n"), tight(1, 2))
	for range 10 {
		if _, e := w.Turns(10000); e != api.OK {
			t.Fatal(e)
		}
	}
	v, _ := w.View()
	l := w.Outputs()
	if len(l) != api.MaxOutputs || slices.ContainsFunc(l, func(o api.Output) bool { return o != api.Output{N: 5} }) || v.Threads[0].Trap != api.TrapOutputs || v.Threads[1].Status != api.Running || w.Over() {
		t.Errorf("%d outputs, %+v", len(l), v.Threads)
	}
}

// A trap stops one thread alone, and is told; spawn counts the threads of the plan.
func TestTraps(t *testing.T) {
	for _, x := range []struct {
		body string
		trap int
	}{
		{"null\nget a n\ndrop", api.TrapNull}, {"const 3\nnewints\nconst 3\nintat\ndrop", api.TrapBounds}, {"const 1\nconst 0\ndiv\ndrop", api.TrapZero}, {"call main", api.TrapFrames},
		{"new b\nget a n\ndrop", api.TrapClass}, {"const 256\nnewrefs\ndrop", api.TrapSize}, {"const 250\nnewrefs\ndrop", api.TrapMemory}, {"spawn other\nspawn other\ndrop\ndrop", api.TrapThreads}, {"const 3\njoin\ndrop", api.TrapJoin},
	} {
		text := "class a n:int\nclass b\nfunc first\npoll\nspawn main\ndrop\nmore:\npoll\njump more\nend\nfunc main\npoll\n" + x.body + "\nreturn\nend\nfunc other\npoll\nreturn\nend\n"
		w := watched(t, checked(t, text), tight(2, 3))
		for n := range 4000 {
			w.pick([]int{0, 1, 2, world.Gatherer}[n%4])
		}
		w.same()
		v := w.view.Threads
		if v[0].Status != api.Running || v[1].Status != api.Trapped || v[1].Trap != x.trap || w.traps[x.trap] != 1 || w.cell(w.plan.Result(1)) != 0 {
			t.Errorf("%q: %+v", x.body, v)
		}
	}
}

// A nil world does nothing, and one that no call has made no harm.
func TestNil(t *testing.T) {
	var w *world.World
	if w.Pick(0) != (world.Turn{}) || w.Pick(world.Gatherer) != (world.Turn{}) || !w.Over() || w.Count()+w.Picks()+w.Accesses()+w.Faults()+w.Freed() != 0 {
		t.Error("it does something")
	}
	if len(w.Outputs())+len(w.Events())+len(w.Image())+len(w.Log()) != 0 || w.Plan() != (layout.Plan{}) {
		t.Error("it has something")
	}
	for _, n := range []int{0, 5, -1, api.MaxPicks + 1} {
		if got, e := w.Turns(n); got != 0 || e != api.ErrNil {
			t.Error(got, e)
		}
		if got, e := w.Finish(n); got != 0 || e != api.ErrNil {
			t.Error(got, e)
		}
	}
	for _, l := range [][]int{nil, {0}, make([]int, api.MaxPicks+1)} {
		if got, e := w.Run(l); got != 0 || e != api.ErrNil {
			t.Error(got, e)
		}
	}
	if v, e := w.View(); e != api.ErrNil || len(v.Threads)+len(v.Globals)+len(v.Roots)+len(v.Flight)+len(v.Cells)+len(v.Marked)+v.Phase+v.Cycle+v.Cycles != 0 {
		t.Error(v, e)
	}
	w = &world.World{}
	for _, who := range []int{0, 6, -1} {
		w.Pick(who)
	}
	w.Run([]int{0, 6})
	w.Turns(9)
	w.Finish(9)
	w.View()
	if !w.Over() || w.Count() != 0 || w.Freed() != 0 || len(w.Image())+len(w.Log()) != 0 {
		t.Error("it has something")
	}
}

// The chapter's examples, and those of the document.
func TestExamples(t *testing.T) {
	w := made(t, checked(t, "class a n:int\nfunc main\npoll\nnew a\ndrop\nreturn\nend\n"), tight(1, 1))
	if _, e := w.Turns(100); e != api.OK || !w.Over() || len(w.Events()) != 4 {
		t.Error(e, w.Events())
	}
	if _, e := w.Finish(1000); e != api.OK {
		t.Error(e)
	}
	if v, _ := w.View(); len(v.Cells) != 0 || w.Freed() != 1 || v.Cycles != 1 {
		t.Errorf("%+v", v)
	}
	w = made(t, checked(t, "func main\nlocals int\npoll\nconst 40\nstore 0\nmore:\npoll\nconst 3\nnewints\ndrop\nload 0\nconst 1\nsub\ndup\nstore 0\njumpif more\nconst 7\nout\nreturn\nend\n"), tight(1, 1))
	n, e := w.Turns(20000)
	if v, _ := w.View(); e != api.OK || n >= 20000 || !w.Over() || !slices.Equal(w.Outputs(), []api.Output{{N: 7}}) || v.Cycles < 1 {
		t.Error(n, e, w.Outputs(), v.Cycles)
	}
	const list = "class a r:ref\nfunc main\nlocals ref\npoll\nmore:\npoll\nnew a\nstore 0\nload 0\nglobal 0\nput a r\nload 0\nsetglobal 0\njump more\nend\n"
	w = made(t, checked(t, list), tight(1, 1))
	w.Turns(6000)
	if v, _ := w.View(); v.Threads[0].Trap != api.TrapMemory || !w.Over() || v.Cycles < 1 {
		t.Errorf("%+v", v)
	}
	w = made(t, checked(t, "class a r:ref\nfunc main\npoll\nmore:\npoll\nnew a\ndrop\njump more\nend\n"), tight(1, 1))
	w.Turns(6000)
	if v, _ := w.View(); v.Threads[0].Trap != 0 || w.Over() || v.Cycles < 2 {
		t.Errorf("%+v", v)
	}
}
