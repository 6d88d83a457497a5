package tlab_test

import (
	"iter"
	"slices"
	"testing"

	"windrow/api"
	"windrow/arena"
	"windrow/classes"
	"windrow/header"
	"windrow/layout"
	"windrow/objects"
	"windrow/pages"
	"windrow/ring"
	"windrow/tlab"
)

// The chapter's words as a procedure, each access of which waits for a step.

// book is what a thread's buffers are, as the chapter says it.
type book struct {
	plan      layout.Plan
	t, cycle  int
	colour    int
	page      [8]int // -1: none
	allocated [8]uint64
}

func newBook(plan layout.Plan, t, cycle int) *book {
	return &book{plan: plan, t: t, cycle: cycle, page: [8]int{-1, -1, -1, -1, -1, -1, -1, -1}}
}

// model is a procedure that is stepped like a machine.
type model struct {
	next    func() (func(p *arena.Port), bool)
	stop    func()
	pending func(p *arena.Port)
	over    bool
	none    bool
	addr    int
}

// unfinished ends a procedure that is no longer stepped.
type unfinished struct{}

type access func(f func(p *arena.Port))

// begin runs a procedure up to its first access.
func begin(procedure func(m *model, do access)) *model {
	m := &model{}
	m.next, m.stop = iter.Pull(func(yield func(func(p *arena.Port)) bool) {
		defer func() {
			if r := recover(); r != nil && r != (unfinished{}) {
				panic(r)
			}
		}()
		procedure(m, func(f func(p *arena.Port)) {
			if !yield(f) {
				panic(unfinished{})
			}
		})
	})
	m.advance()
	return m
}

func (m *model) advance() {
	pending, more := m.next()
	m.pending, m.over = pending, !more
}

// through makes all accesses of a machine.
func (do access) through(m machine) {
	for !m.Over() {
		do(func(p *arena.Port) { m.Step(p) })
	}
}

func (do access) store(at int, v uint64) { do(func(p *arena.Port) { p.Store(at, v) }) }

func (do access) or(at int, v uint64) { do(func(p *arena.Port) { p.Or(at, v) }) }

// alloc is NewAlloc's procedure.
func (b *book) alloc(h header.Head) *model {
	return begin(func(m *model, do access) {
		if h.Len < 32 {
			b.small(m, do, h)
			return
		}
		own := (1 + h.Len + 63) / 64
		run, _ := pages.NewRun(b.plan, b.t, b.cycle, own)
		do.through(run)
		if !run.Got() {
			m.none = true
			return
		}
		b.make(m, do, run.Page(), 0, h)
		do.store(b.plan.Entry(run.Page()), large(own, b.cycle))
		b.grey(m, do)
	})
}

func (b *book) small(m *model, do access, h header.Head) {
	class := classOf(1 + h.Len)
	width := widths()[class]
	for {
		if b.page[class] < 0 {
			claim, _ := pages.NewClaim(b.plan, b.t, b.cycle, class)
			do.through(claim)
			if !claim.Got() {
				m.none = true
				return
			}
			b.page[class], b.allocated[class] = claim.Page(), claim.Alloc()
		}
		for at := 0; at+width <= 64; at += width {
			if b.allocated[class]>>at&1 == 0 {
				b.make(m, do, b.page[class], at, h)
				b.allocated[class] |= 1 << at
				b.grey(m, do)
				return
			}
		}
		do.store(b.plan.Entry(b.page[class]), idle(class, b.cycle))
		b.page[class] = -1
	}
}

func (b *book) make(m *model, do access, page, at int, h header.Head) {
	addr := b.plan.Addr(page, at)
	for n := h.Len; n > 0; n-- {
		do.store(addr+n, 0)
	}
	do.store(addr, headWord(h))
	if b.colour != tlab.White {
		do.or(b.plan.Mark(page), 1<<at)
	}
	do(func(p *arena.Port) {
		p.Or(b.plan.Alloc(page), 1<<at)
		m.addr = addr
	})
}

func (b *book) grey(m *model, do access) {
	if b.colour != tlab.Grey {
		return
	}
	push, _ := ring.NewPush(b.plan, b.t, uint64(m.addr))
	do.through(push)
	if push.Full() {
		do.store(layout.Over, 1)
	}
}

// retire is NewRetire's procedure.
func (b *book) retire() *model {
	return begin(func(m *model, do access) {
		for class, page := range b.page {
			if page >= 0 {
				do.store(b.plan.Entry(page), idle(class, b.cycle))
				b.page[class] = -1
			}
		}
	})
}

// actor is a thread, once with the package's machines and once with the chapter's procedures.
type actor struct {
	b     *tlab.Buffers
	book  *book
	m     machine
	model *model
	p, q  *arena.Port
}

// sides is one heap twice.
type sides struct {
	t      *testing.T
	plan   layout.Plan
	a, b   *arena.Arena
	actors []*actor
}

// both holds the last access and the answers of both sides against each other.
func (s *sides) both(w *actor, over bool) {
	s.t.Helper()
	x, y := lastOf(s.a), lastOf(s.b)
	if x != y || s.a.Count() != s.b.Count() || s.a.Faults() != 0 || over != w.model.over || w.m.Over() != over {
		s.t.Fatalf("%+v, %v, not %+v, %v", x, over, y, w.model.over)
	}
	if al, ok := w.m.(*tlab.Alloc); ok && (al.Addr() != w.model.addr || al.None() != w.model.none) {
		s.t.Fatalf("%d, %v, not %d, %v", al.Addr(), al.None(), w.model.addr, w.model.none)
	}
}

// step makes a thread's next access on both sides; now and then one without a grant comes ahead.
func (s *sides) step(w *actor, blank bool) {
	s.t.Helper()
	if blank && w.m.Step(w.p) != w.m.Over() {
		s.t.Fatal("over without a grant")
	}
	w.p.Grant()
	w.q.Grant()
	over := w.m.Step(w.p)
	w.model.pending(w.q)
	w.model.advance()
	s.both(w, over)
}

// begin gives a thread its next machine, on both sides.
func (s *sides) begin(w *actor, h header.Head) {
	s.t.Helper()
	w.m, w.model = newAlloc(s.t, w.b, h), w.book.alloc(h)
	s.both(w, w.m.Over())
}

func (s *sides) retire(w *actor) {
	s.t.Helper()
	w.m, w.model = tlab.NewRetire(w.b), w.book.retire()
	s.both(w, w.m.Over())
}

// poke stores a word on both sides, as somebody else's doing.
func (s *sides) poke(at int, v uint64) {
	s.a.Poke(at, v)
	s.b.Poke(at, v)
}

// newSides: a heap of so many pages and threads, whose buffers are of a cycle.
func newSides(t *testing.T, pages, threads, cycle int) *sides {
	t.Helper()
	s := &sides{t: t}
	s.a, s.plan = heap(t, threads, make([]page, pages)...)
	s.b, _ = heap(t, threads, make([]page, pages)...)
	for th := range threads {
		s.actors = append(s.actors, &actor{b: buffers(t, s.plan, th, cycle, tlab.White), book: newBook(s.plan, th, cycle), p: port(t, s.a, th), q: port(t, s.b, th)})
	}
	return s
}

// sweep makes all accesses of a sweep by the collector, on both sides.
func (s *sides) sweep(page, cycle int) {
	for _, a := range []*arena.Arena{s.a, s.b} {
		m, _ := pages.NewSweep(s.plan, api.CollectorID, cycle, page)
		p := port(s.t, a, api.CollectorID)
		for p.Grant(); !m.Step(p); p.Grant() {
		}
	}
}

// anyHead: headers that fit the table of these tests, small ones for the most part.
func anyHead(random *seed) header.Head {
	return pick(random, ints(random.below(4)), ints(random.below(32)), header.Head{Kind: api.Refs, Len: random.below(12)}, header.Head{Kind: api.Fields, Class: 1, Len: 2}, ints(30), ints(14), ints(32+random.below(224)), ints(63))
}

// table: two classes, so that headers of Fields fit.
func table(t *testing.T) *classes.Table {
	t.Helper()
	made, _, e := classes.New([]api.Class{{Name: "a"}, {Name: "b", Fields: []api.Field{{Name: "x", Type: api.Ref}, {Name: "y", Type: api.Int}}}})
	if e != api.OK {
		t.Fatal(e)
	}
	return made
}

// apart holds that no two objects share a word, and that the new one is as its header says.
func (s *sides) apart(made *classes.Table, addr int, h header.Head, colour int) {
	s.t.Helper()
	o, e := objects.Look(s.a, s.plan, made, addr)
	if e != api.OK || objects.Head(o) != h || slices.ContainsFunc(o.Words, func(v int64) bool { return v != 0 }) {
		s.t.Fatal("a new object is", o, e)
	}
	page, at := s.plan.Place(addr)
	if colour != tlab.White && peek(s.t, s.a, s.plan.Mark(page))>>at&1 == 0 {
		s.t.Fatal("a new object isn't marked")
	}
	all, e := objects.All(s.a, s.plan, made)
	if e != api.OK {
		s.t.Fatal(e)
	}
	for i := range all[1:] {
		if int(all[i].Addr)+objects.Span(all[i]) > int(all[i+1].Addr) {
			s.t.Fatal(all[i], all[i+1])
		}
	}
	// The new object's words are used from now on.
	for i := range o.Words {
		s.poke(objects.Field(addr, i), uint64(addr+i))
	}
}

// round lets a thread do something next that has nothing to do.
func (s *sides) round(w *actor, random *seed, cycle int) {
	s.t.Helper()
	if w.m != nil && random.below(12) == 0 {
		s.retire(w)
		return
	}
	if len(heldBy(w.b)) == 0 && w.b.SetCycle(cycle) == api.OK {
		w.book.cycle = cycle
	}
	if random.below(6) == 0 {
		w.book.colour = random.below(3)
		w.b.SetColour(w.book.colour)
	}
	s.begin(w, anyHead(random))
}

// P12.1 to P12.4: threads that make objects in one heap, and sweeps beside them: they do what the chapter says, no two objects share a word, and a coloured one is marked ahead of being allocated.
func TestManyThreads(t *testing.T) {
	random := seed(88172645463325252)
	made := table(t)
	for n := range 150 {
		cycle := random.below(3)
		s := newSides(t, 1+random.below(9), 1+random.below(3), cycle)
		for range 500 {
			w := s.actors[random.below(len(s.actors))]
			if w.m == nil || w.m.Over() {
				s.round(w, &random, cycle)
				if w.m.Over() {
					continue
				}
			}
			before := addrOf(w.m)
			s.step(w, random.below(4) == 0)
			if addr := addrOf(w.m); addr != before {
				h, e := header.DecodeHead(peek(t, s.a, addr))
				if e != api.OK {
					t.Fatal(n, addr, e)
				}
				s.apart(made, addr, h, w.b.Colour())
			}
			// The collector marks some, in between, and sweeps in the cycle that has begun.
			switch random.below(40) {
			case 0:
				i := random.below(s.plan.Pages)
				s.poke(s.plan.Mark(i), peek(t, s.a, s.plan.Mark(i))|peek(t, s.a, s.plan.Alloc(i))&random.next())
			case 1, 2:
				s.sweep(random.below(s.plan.Pages), cycle)
			case 3:
				if random.below(3) == 0 {
					cycle++
				}
			case 4:
				// Words of rings are taken.
				th := random.below(s.plan.Threads)
				s.poke(s.plan.Head(th), peek(t, s.a, s.plan.Tail(th)))
			}
		}
		for _, w := range s.actors {
			if w.model != nil {
				w.model.stop()
			}
		}
		if !slices.Equal(s.a.Image(), s.b.Image()) {
			t.Fatal(n)
		}
	}
}

func addrOf(m machine) int {
	if al, ok := m.(*tlab.Alloc); ok {
		return al.Addr()
	}
	return 0
}

// P12.2, P12.4: threads that fill a heap in turns: each object is as it was left, up to the end, whatever was found to be full.
func TestFillTheHeap(t *testing.T) {
	random := seed(1234567)
	made := table(t)
	for range 60 {
		s := newSides(t, 1+random.below(6), 1+random.below(3), 0)
		left := map[int]header.Head{}
		none := 0
		for none < 20 {
			w := s.actors[random.below(len(s.actors))]
			h := anyHead(&random)
			for s.begin(w, h); !w.m.Over(); {
				s.step(w, false)
			}
			if addrOf(w.m) == 0 {
				none++
				continue
			}
			s.apart(made, addrOf(w.m), h, w.b.Colour())
			left[addrOf(w.m)] = h
		}
		all, e := objects.All(s.a, s.plan, made)
		if e != api.OK || len(all) != len(left) {
			t.Fatal(len(all), len(left), e)
		}
		for _, o := range all {
			if left[int(o.Addr)] != objects.Head(o) {
				t.Error(o, left[int(o.Addr)])
			}
			for i, v := range o.Words {
				if v != o.Addr+int64(i) {
					t.Error(o)
				}
			}
		}
	}
}
