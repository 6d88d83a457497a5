package mutator_test

import (
	"slices"
	"testing"

	"windrow/api"
	"windrow/arena"
	"windrow/code"
	"windrow/header"
	"windrow/layout"
	"windrow/mutator"
	"windrow/plain"
	"windrow/sizes"
	"windrow/verify"
)

// crowd is threads over one arena, without a collector.
type crowd struct {
	*testing.T
	c       *verify.Checked
	plan    layout.Plan
	a       *arena.Arena
	threads []*mutator.Mutator
	ports   []*arena.Port
	outputs []api.Output
	model   *plain.Machine
	name    map[int64]int64            // of the object at an address: what the plain machine calls it
	steps   [api.MaxThreads]int        // of the instruction that goes on
	want    [api.MaxThreads]api.Thread // of the plain machine
}

func gathered(t *testing.T, c *verify.Checked, plan layout.Plan) *crowd {
	t.Helper()
	g := &crowd{T: t, c: c, plan: plan, name: map[int64]int64{0: 0}}
	var e api.Errno
	if g.a, e = arena.New(plan.Cells(), false); e != api.OK {
		t.Fatal(e)
	}
	if g.model, e = plain.New(c, plan.Threads); e != api.OK {
		t.Fatal(e)
	}
	g.a.Poke(layout.Count, 1)
	g.a.Poke(plan.Status(0), mutator.Runs)
	g.Begin(0, 0, nil, nil)
	g.Raise(0)
	g.look()
	return g
}

func (g *crowd) Begin(n, fn int, args []api.Value, by *mutator.Mutator) {
	m, e := mutator.New(g.plan, g.c, g, n, fn, args)
	if e != api.OK || n != len(g.threads) || m.Started() {
		g.Fatalf("thread %d: %d", n, e)
	}
	m.Inherit(by)
	p, _ := g.a.Port(n)
	g.threads, g.ports = append(g.threads, m), append(g.ports, p)
}

func (g *crowd) Raise(n int) { g.threads[n].Start() }

func (g *crowd) Tell(t int, n int64) bool {
	if len(g.outputs) == api.MaxOutputs {
		return false
	}
	g.outputs = append(g.outputs, api.Output{Thread: t, N: n})
	return true
}

func (g *crowd) Gone(t int) bool { return g.threads[t].Gone() }

func (g *crowd) Collect() {}

func (g *crowd) look() {
	for i := range g.model.Count() {
		g.want[i], _ = g.model.Thread(i)
	}
}

// pick: a step of a thread, behind which it must be as on the plain machine, which performs the instruction when it takes effect.
func (g *crowd) pick(i int) mutator.Turn {
	before := g.a.Count()
	g.ports[i].Grant()
	turn := g.threads[i].Step(g.ports[i])
	if made := g.a.Count() - before; made > 1 || made > 0 && !turn.Moved || g.a.Faults() > 0 {
		g.Fatalf("%d accesses, %d faults, %+v", made, g.a.Faults(), turn)
	}
	if turn.Done {
		g.take(turn.Event)
	}
	g.count(i, turn)
	g.same(i)
	return turn
}

func (g *crowd) take(event api.Event) {
	want, ok := g.model.Do(event.Thread, event.Trap != api.TrapMemory)
	if want.Addr != 0 {
		g.name[event.Addr] = want.Addr
	}
	want.At, want.Addr = 0, event.Addr
	if !ok || want != event {
		g.Fatalf("%+v, not %+v, %v", event, want, ok)
	}
	g.look()
}

// count holds the steps of an instruction against P19.3. For a page that is full a claim makes three accesses more than the promise counts: it takes the page, sees that, and gives it back.
func (g *crowd) count(i int, turn mutator.Turn) {
	if turn.Moved {
		g.steps[i]++
	}
	bound := 20
	if turn.Done && turn.Event.Addr != 0 {
		w, _ := g.a.Peek(int(turn.Event.Addr))
		bound += 3*g.plan.Pages + 3*g.full() + 3*(1+int(w>>16&255))
	}
	if turn.Done && g.steps[i] > bound && turn.Event.Op != code.Poll {
		g.Fatalf("%d steps of %s in %d pages", g.steps[i], code.Name(turn.Event.Op), g.plan.Pages)
	}
	if turn.Done || g.threads[i].View().Status != api.Running {
		g.steps[i] = 0
	}
}

// full: how many pages have as many objects as they can.
func (g *crowd) full() (n int) {
	for i := range g.plan.Pages {
		entry, _ := g.a.Peek(g.plan.Entry(i))
		alloc, _ := g.a.Peek(g.plan.Alloc(i))
		if entry&3 == header.Small && sizes.Room(int(entry>>2&15), alloc) == 0 {
			n++
		}
	}
	return n
}

// same: is a thread as on the plain machine?
func (g *crowd) same(i int) {
	got, want := g.threads[i].View(), g.want[i]
	if got.Status == api.Joining || got.Status == api.Wanting {
		got.Status = api.Running
	}
	ok := got.Status == want.Status && got.Trap == want.Trap && got.Result == want.Result && len(got.Frames) == len(want.Frames)
	for n := 0; ok && n < len(got.Frames); n++ {
		f, w := got.Frames[n], want.Frames[n]
		ok = f.Fn == w.Fn && f.Pc == w.Pc && slices.EqualFunc(f.Locals, w.Locals, g.equal) && slices.EqualFunc(f.Stack, w.Stack, g.equal)
	}
	if !ok || len(g.threads) != g.model.Count() {
		g.Fatalf("thread %d: %+v, not %+v", i, got, want)
	}
}

func (g *crowd) equal(got, want api.Value) bool {
	if got.Type == api.Ref {
		name, ok := g.name[got.N]
		return ok && want.Type == api.Ref && name == want.N
	}
	return got == want
}

// The whole: objects are as those of the plain machine, and so are globals and outputs.
func (g *crowd) whole() {
	g.Helper()
	cells := g.model.Cells()
	for at, name := range g.name {
		if name == 0 {
			continue
		}
		c := cells[name-1]
		for i, want := range c.Words {
			w, _ := g.a.Peek(int(at) + 1 + i)
			kind := api.Int
			if c.Kind == api.Refs {
				kind = api.Ref
			} else if c.Kind == api.Fields {
				kind, _ = g.c.Table().Type(c.Class, i)
			}
			if !g.equal(api.Value{Type: kind, N: int64(w)}, api.Value{Type: kind, N: want}) {
				g.Fatalf("object %d: word %d is %d, not %d", name, i, w, want)
			}
		}
	}
	for i, want := range g.model.Globals() {
		if w, _ := g.a.Peek(g.plan.Global(i)); g.name[int64(w)] != want {
			g.Fatalf("global %d", i)
		}
	}
	if !slices.Equal(g.outputs, g.model.Outputs()) {
		g.Fatal(g.outputs, g.model.Outputs())
	}
}

// P19.1 to P19.3, and each line of the chapter's table: programs without a pattern, whose threads take turns in any order, are those of the plain machine behind each step.
func TestManyPrograms(t *testing.T) {
	s := seed(19)
	ops, traps := map[int]int{}, map[int]int{}
	joins, wants, left, tried := 0, 0, 0, 0
	for range 2500 {
		c, _, e := verify.Check(s.program())
		if e != api.OK {
			continue
		}
		tried++
		pages := 32
		if s.below(3) == 0 {
			pages = 1 + s.below(5)
		}
		g := gathered(t, c, planned(t, pages, 1+s.below(6), 1))
		for range 1500 {
			i := s.below(len(g.threads))
			for range 1 + s.below(6) {
				turn := g.pick(i)
				if turn.Done {
					ops[turn.Event.Op]++
					traps[turn.Event.Trap]++
				}
				switch g.threads[i].View().Status {
				case api.Joining:
					joins++
				case api.Wanting:
					wants++
				}
			}
		}
		g.whole()
		for _, m := range g.threads {
			if m.Gone() {
				left++
			}
		}
	}
	for op := 1; op <= code.Ops; op++ {
		if ops[op] < 50 {
			t.Errorf("%s was hardly tried: %d times", code.Name(op), ops[op])
		}
	}
	for trap := range api.TrapOutputs { // that one has a test of its own, and so has TrapMemory
		if traps[trap] < 10 && trap != api.TrapMemory {
			t.Errorf("trap %d was hardly tried: %d times", trap, traps[trap])
		}
	}
	if tried < 1200 || joins < 1000 || wants < 100 || left < 500 {
		t.Error("hardly tried", tried, joins, wants, left)
	}
}

// Rule 6: the words of an arena may be anything; a step is one all the same, with one access at most.
func TestStrangeWords(t *testing.T) {
	s := seed(196)
	for range 1500 {
		c, _, e := verify.Check(s.program())
		if e != api.OK {
			continue
		}
		plan := layout.Plan{Pages: 1 + s.below(3), Threads: 1 + s.below(6), Ring: 1 + s.below(3)}
		cells := plan.Cells()
		if s.below(4) == 0 {
			cells = 1 + s.below(cells)
		}
		a, _ := arena.New(cells, false)
		h := &host{gone: map[int]bool{0: true, 1: s.below(2) == 0}, full: s.below(9) == 0}
		m, e := mutator.New(plan, c, h, s.below(plan.Threads), 0, nil)
		if e != api.OK {
			t.Fatal(e)
		}
		m.Start()
		p, _ := a.Port(1)
		for range 150 {
			if s.below(3) > 0 {
				a.Poke(s.below(cells), s.word(plan))
			}
			if s.below(30) == 0 {
				m.Serve(s.next())
			}
			before := a.Count()
			p.Grant()
			turn := m.Step(p)
			if a.Count() > before+1 || !turn.Moved && a.Count() > before || turn.Done && !turn.Moved {
				t.Fatalf("%d accesses: %+v", a.Count()-before, turn)
			}
			m.View()
			m.Roots()
			m.Flight()
		}
	}
}

// word: any one, often one that means something.
func (s *seed) word(plan layout.Plan) uint64 {
	switch s.below(5) {
	case 0:
		return uint64(s.below(8))
	case 1:
		return uint64(plan.Base() + s.below(64*plan.Pages))
	case 2:
		return 0xA5<<56 | uint64(s.below(32))<<16 | uint64(1+s.below(3))
	case 3:
		return s.next()<<40 ^ s.next()
	}
	return uint64(s.below(300))
}
