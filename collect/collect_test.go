package collect_test

import (
	"slices"
	"testing"

	"windrow/api"
	"windrow/arena"
	"windrow/collect"
	"windrow/header"
	"windrow/layout"
	"windrow/mutator"
)

func planned(t *testing.T, pages, threads, ring int) layout.Plan {
	t.Helper()
	plan, e := layout.New(pages, threads, ring)
	if e != api.OK {
		t.Fatal(e)
	}
	return plan
}

func TestConstants(t *testing.T) {
	got := []int{collect.Idle, collect.Arming, collect.Scanning, collect.Rooting, collect.Blending, collect.Marking, collect.Checking, collect.Quieting, collect.Closing, collect.Sweeping}
	if !slices.Equal(got, []int{0, 1, 2, 3, 4, 5, 6, 7, 8, 9}) {
		t.Error(got)
	}
}

// P20.1: New, with each error alone and ahead of those that come later.
func TestNew(t *testing.T) {
	plan, table := planned(t, 2, 2, 2), tableOf(t)
	find := func(int) collect.Subject { return nil }
	for _, x := range []struct {
		plan layout.Plan
		e    api.Errno
		most int
	}{
		{plan, api.OK, 1}, {plan, api.OK, 64}, {plan, api.OK, 30}, {plan, api.ErrArg, 0}, {plan, api.ErrArg, 65}, {plan, api.ErrArg, -1},
		{layout.Plan{}, api.ErrArg, 1}, {layout.Plan{Pages: 33, Threads: 1, Ring: 1}, api.ErrArg, 1}, {layout.Plan{Pages: 1, Threads: 7, Ring: 1}, api.ErrArg, 1},
		{layout.Plan{Pages: 1, Threads: 1}, api.ErrArg, 9},
	} {
		c, e := collect.New(x.plan, table, x.most, find)
		if e != x.e || (c == nil) != (e != api.OK) {
			t.Errorf("New(%+v) = %v, %d", x, c, e)
		}
		if c, e := collect.New(x.plan, nil, x.most, find); c != nil || e != api.ErrNil {
			t.Errorf("New(%+v) without a table = %v, %d", x, c, e)
		}
		if c, e := collect.New(x.plan, table, x.most, nil); c != nil || e != api.ErrNil {
			t.Errorf("New(%+v) without a function = %v, %d", x, c, e)
		}
	}
	c, _ := collect.New(plan, table, 3, find)
	if c.Phase() != collect.Idle || c.Cycle() != 0 || c.Cycles() != 0 || c.Freed() != 0 || len(c.Stack()) != 0 || len(c.Flight()) != 0 {
		t.Errorf("%+v", c)
	}
}

// P20.1: nil and unmade collectors do nothing.
func TestNil(t *testing.T) {
	a, _ := arena.New(200, false)
	a.Poke(layout.Request, 1)
	p, _ := a.Port(0)
	for _, c := range []*collect.Collector{nil, {}} {
		p.Grant()
		if c.Step(p) || !p.Open() || c.Step(nil) {
			t.Error("a step")
		}
		if c.Phase() != collect.Idle || c.Cycle() != 0 || c.Cycles() != 0 || c.Freed() != 0 || len(c.Stack()) != 0 || len(c.Flight()) != 0 {
			t.Errorf("%+v", c)
		}
	}
}

// P20.1: while Request is 0, an idle collector stays idle and changes no cell, whatever the others hold.
func TestIdle(t *testing.T) {
	b := benched(t, planned(t, 2, 2, 2), 1)
	b.quick = false
	for at := range b.plan.Cells() {
		if at != layout.Request {
			b.poke(at, uint64(at*7))
		}
	}
	for range 2 {
		before := b.a.Image()
		for range 50 {
			b.step()
			closed, _ := b.a.Port(api.CollectorID)
			if b.c.Step(closed) || b.c.Step(nil) || b.a.Faults() != 0 {
				t.Error("a step without a grant")
			}
			if b.c.Phase() != collect.Idle || b.c.Cycles() != 0 || !slices.Equal(before, b.a.Image()) {
				t.Fatal("it is not idle")
			}
		}
		b.poke(layout.Over, 5)
	}
}

// moment is a cell that all share, which the collector has changed, and the phase then.
type moment struct {
	at    int
	v     uint64
	phase int
}

// follow makes a cycle and tells what it stores into Epoch, Cycle, Request, Over and Done.
func (b *bench) shared() (l []moment) {
	b.Helper()
	done := b.c.Cycles()
	for range most {
		before := b.a.Image()
		b.step()
		for at := layout.Epoch; at <= layout.Count; at++ {
			if v := b.peek(at); v != before[at] {
				l = append(l, moment{at, v, b.c.Phase()})
			}
		}
		if b.c.Cycles() > done {
			return l
		}
	}
	b.Fatal("the cycle doesn't end")
	return nil
}

// A cycle: its phases, and what it stores for all. The handshakes' numbers go on from cycle to cycle.
func TestCycle(t *testing.T) {
	for threads := 1; threads <= 3; threads++ {
		b := benched(t, planned(t, 2, threads, 1), 4)
		for n := range threads {
			b.poke(b.plan.Status(n), mutator.Runs)
		}
		b.poke(layout.Count, uint64(threads))
		for cycle := range uint64(3) {
			// Any number but 0 wishes a cycle.
			b.poke(layout.Request, 1+6*cycle)
			first := 6*cycle + 1
			want := []moment{
				{layout.Request, 0, collect.Idle}, {layout.Done, 2*cycle + 1, collect.Arming},
				{layout.Epoch, 8*first + mutator.Arm, collect.Arming}, {layout.Epoch, 8*(first+1) + mutator.Scan, collect.Scanning},
				{layout.Epoch, 8*(first+2) + mutator.Blend, collect.Blending}, {layout.Epoch, 8*(first+3) + mutator.Check, collect.Checking},
				{layout.Epoch, 8*(first+4) + mutator.Quiet, collect.Quieting}, {layout.Epoch, 8*(first+5) + mutator.Off, collect.Closing},
				{layout.Cycle, cycle + 1, collect.Sweeping}, {layout.Done, 2*cycle + 2, collect.Idle},
			}
			if got := b.shared(); !slices.Equal(got, want) {
				t.Fatalf("%+v, not %+v", got, want)
			}
			if b.c.Cycle() != int(cycle)+1 || b.c.Cycles() != int(cycle)+1 || b.c.Phase() != collect.Idle {
				t.Error(b.c.Cycle(), b.c.Cycles())
			}
		}
		if len(b.asked) != 0 {
			t.Error("no thread waits", b.asked)
		}
		before := b.a.Image()
		b.stuck(collect.Idle)
		if !slices.Equal(before, b.a.Image()) {
			t.Error("it isn't idle")
		}
	}
}

// A request that is made while a cycle goes on begins another one.
func TestRequestAgain(t *testing.T) {
	b := benched(t, planned(t, 1, 1, 1), 1)
	b.poke(layout.Request, 1)
	b.upTo(collect.Arming)
	b.poke(layout.Request, 1)
	b.upTo(collect.Idle)
	if b.peek(layout.Request) != 1 || b.c.Cycles() != 1 {
		t.Error(b.peek(layout.Request), b.c.Cycles())
	}
	b.upTo(collect.Arming)
	b.upTo(collect.Idle)
	b.stuck(collect.Idle)
	if b.c.Cycles() != 2 || b.peek(layout.Done) != 4 {
		t.Error(b.c.Cycles())
	}
}

// Each page is swept with the number of the cycle: what isn't marked is freed, and counted.
func TestSweeping(t *testing.T) {
	b := benched(t, planned(t, 12, 1, 1), 2)
	node := header.Head{Kind: api.Fields, Len: 3}
	var kept, lost []int64
	for n, length := range []int{0, 1, 2, 4, 6, 10, 15, 30, 40, 100, 0, 1, 2, 4} {
		kind := []int{api.Ints, api.Refs}[n%2]
		object := b.lay(header.Head{Kind: kind, Len: length})
		if object == 0 {
			t.Fatal("no room")
		}
		if n < 7 && n%3 == 0 {
			kept = append(kept, object)
			b.poke(b.plan.Global(n), uint64(object))
		} else {
			lost = append(lost, object)
		}
	}
	last := b.lay(node)
	b.poke(b.plan.Global(7), uint64(last))
	kept = append(kept, last)
	b.cycle()
	for _, object := range kept {
		if !b.allocated(object) || b.marked(object) {
			t.Error(object, "is freed, or still marked")
		}
	}
	for _, object := range lost {
		if b.allocated(object) || b.marked(object) {
			t.Error(object, "isn't freed")
		}
	}
	if b.c.Freed() != len(lost) {
		t.Error(b.c.Freed(), len(lost))
	}
	for i := range b.plan.Pages {
		entry, e := header.DecodeEntry(b.peek(b.plan.Entry(i)))
		if e != api.OK || entry.Kind != header.Free && (entry.Cycle != 1 || entry.State != header.Idle) {
			t.Errorf("page %d: %+v", i, entry)
		}
	}
	// What was kept goes with the second cycle.
	for i := range api.Globals {
		b.poke(b.plan.Global(i), 0)
	}
	b.cycle()
	if b.c.Freed() != len(lost)+len(kept) {
		t.Error(b.c.Freed())
	}
	for i := range b.plan.Pages {
		if b.peek(b.plan.Entry(i)) != 0 || b.peek(b.plan.Alloc(i)) != 0 {
			t.Errorf("page %d isn't free", i)
		}
	}
}

// Where somebody else sweeps a page, all pages are looked at again, until that is done.
func TestSweepingAgain(t *testing.T) {
	b := benched(t, planned(t, 3, 1, 1), 2)
	first, second := b.lay(header.Head{Kind: api.Ints, Len: 1}), b.lay(header.Head{Kind: api.Ints, Len: 30})
	page, _ := b.plan.Place(int(second))
	busy, _ := header.EncodeEntry(header.Entry{Kind: header.Small, Class: 7, State: header.Busy, Owner: 0})
	b.poke(b.plan.Entry(page), busy)
	b.poke(layout.Request, 1)
	b.upTo(collect.Sweeping)
	b.stuck(collect.Sweeping)
	if b.allocated(first) || !b.allocated(second) || b.c.Freed() != 1 || b.c.Cycles() != 0 || b.peek(layout.Done) != 1 {
		t.Error(b.allocated(first), b.allocated(second), b.c.Freed())
	}
	// The other one has swept it, and nothing was left.
	b.poke(b.plan.Alloc(page), 0)
	b.poke(b.plan.Entry(page), 0)
	b.upTo(collect.Idle)
	if b.c.Freed() != 1 || b.c.Cycles() != 1 {
		t.Error(b.c.Freed(), b.c.Cycles())
	}
	// A page that somebody owns, or makes a large object in, with this cycle, isn't waited for.
	for _, entry := range []header.Entry{{Kind: header.Small, Class: 7, State: header.Owned, Cycle: 2}, {Kind: header.Large, Class: 1, State: header.Busy, Cycle: 3}} {
		w, _ := header.EncodeEntry(entry)
		b.poke(b.plan.Entry(page), w)
		b.poke(b.plan.Alloc(page), 1)
		b.cycle()
		if b.peek(b.plan.Entry(page)) != w || b.peek(b.plan.Alloc(page)) != 1 {
			t.Errorf("%+v is swept", entry)
		}
	}
}

// Rule 6: the words of an arena may be anything, and so may what threads tell; a step is one all the same, with one access at most.
func TestStrangeWords(t *testing.T) {
	s := seed(206)
	phases := map[int]int{}
	for range 1500 {
		plan := layout.Plan{Pages: 1 + s.below(3), Threads: 1 + s.below(6), Ring: 1 + s.below(3)}
		cells := plan.Cells()
		if s.below(5) == 0 {
			cells = 1 + s.below(cells)
		}
		a, _ := arena.New(cells, false)
		p, _ := a.Port(api.CollectorID)
		often := 1 + s.below(60)
		c, e := collect.New(plan, tableOf(t), 1+s.below(5), func(int) collect.Subject {
			if s.below(4) == 0 {
				return nil
			}
			if s.below(4) == 0 {
				return (*mutator.Mutator)(nil)
			}
			return &subject{roots: []int64{int64(s.word(plan)), int64(s.word(plan)), -1}}
		})
		if e != api.OK {
			t.Fatal(e)
		}
		for range 600 {
			if s.below(often) == 0 {
				a.Poke(s.below(cells), s.word(plan))
			}
			if s.below(9) == 0 {
				a.Poke(layout.Request, 1)
			}
			for n := range plan.Threads {
				if w, _ := a.Peek(layout.Epoch); s.below(4) == 0 {
					a.Poke(plan.Ack(n), w)
				}
			}
			before := a.Count()
			p.Grant()
			if c.Step(p); a.Count() > before+1 {
				t.Fatal("two accesses")
			}
			c.Stack()
			c.Flight()
			phases[c.Phase()]++
		}
	}
	for phase := range 10 {
		if phases[phase] < 500 {
			t.Error("hardly tried", phases)
		}
	}
}

// word: any one, often one that means something.
func (s *seed) word(plan layout.Plan) uint64 {
	switch s.below(6) {
	case 0, 1:
		return uint64(s.below(5))
	case 2:
		return uint64(plan.Base() + s.below(64*plan.Pages))
	case 3:
		return 0xA5<<56 | uint64(s.below(70))<<16 | uint64(1+s.below(3))
	case 4:
		return s.next()<<40 ^ s.next()
	}
	return uint64(s.below(300))
}
