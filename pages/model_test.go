package pages_test

import (
	"iter"
	"math/bits"
	"testing"

	"windrow/api"
	"windrow/arena"
	"windrow/header"
	"windrow/layout"
	"windrow/sizes"
)

// The chapter's words as procedures, each access of which waits for a step.

// hands is what a procedure makes its accesses with.
type hands struct {
	plan layout.Plan
	ask  func(func(p *arena.Port)) bool
}

// unfinished ends a procedure that is no longer stepped.
type unfinished struct{}

func (h *hands) access(f func(p *arena.Port)) {
	if !h.ask(f) {
		panic(unfinished{})
	}
}

func (h *hands) load(at int) (v uint64) {
	h.access(func(p *arena.Port) { v = p.Load(at) })
	return v
}

func (h *hands) store(at int, v uint64) { h.access(func(p *arena.Port) { p.Store(at, v) }) }

func (h *hands) cas(at int, want, v uint64) (did bool) {
	h.access(func(p *arena.Port) { did = p.Cas(at, want, v) })
	return did
}

// model is a procedure that is stepped like a machine.
type model struct {
	next    func() (func(p *arena.Port), bool)
	stop    func()
	pending func(p *arena.Port)
	over    bool
	answers []any
}

// begin runs a procedure up to its first access.
func begin(plan layout.Plan, none []any, procedure func(h *hands) []any) *model {
	m := &model{answers: none}
	m.next, m.stop = iter.Pull(func(yield func(func(p *arena.Port)) bool) {
		defer func() {
			if r := recover(); r != nil && r != (unfinished{}) {
				panic(r)
			}
		}()
		m.answers = procedure(&hands{plan: plan, ask: yield})
	})
	m.advance()
	return m
}

func (m *model) advance() {
	pending, more := m.next()
	m.pending, m.over = pending, !more
}

func (m *model) step(p *arena.Port) {
	if !m.over {
		m.pending(p)
		m.advance()
	}
}

// word: an entry's word, as entry makes it.
func word(e header.Entry) uint64 { return entry(e.Kind, e.Class, e.State, e.Owner, e.Cycle) }

type sweeping struct {
	swept, empty bool
	freed        int
	blocked      bool
}

func (h *hands) sweep(who, cycle, i int) sweeping {
	seen := h.load(h.plan.Entry(i))
	e, err := header.DecodeEntry(seen)
	if err != api.OK {
		return sweeping{}
	}
	if !e.Due(cycle) {
		return sweeping{blocked: e.State == header.Busy && e.Cycle < cycle}
	}
	if e.Kind == header.Large && i+e.Class > h.plan.Pages {
		return sweeping{}
	}
	if !h.cas(h.plan.Entry(i), seen, entry(e.Kind, e.Class, header.Busy, who, e.Cycle)) {
		return sweeping{blocked: true}
	}
	mark := h.load(h.plan.Mark(i))
	alloc := h.load(h.plan.Alloc(i))
	both := mark & alloc
	if e.Kind == header.Large {
		both &= 1
	}
	h.store(h.plan.Alloc(i), both)
	h.store(h.plan.Mark(i), 0)
	if both != 0 {
		h.store(h.plan.Entry(i), entry(e.Kind, e.Class, header.Idle, 0, cycle))
	} else {
		if e.Kind == header.Large {
			for k := e.Class - 1; k >= 1; k-- {
				h.store(h.plan.Entry(i+k), 0)
			}
		}
		h.store(h.plan.Entry(i), 0)
	}
	return sweeping{swept: true, empty: both == 0, freed: bits.OnesCount64(alloc) - bits.OnesCount64(both)}
}

func (h *hands) claim(t, cycle, class int) (bool, int, uint64) {
	plan, mine := h.plan, owned(class, t, cycle)
	obtain := func(i int) bool {
		if !h.cas(plan.Entry(i), 0, mine) {
			return false
		}
		h.store(plan.Alloc(i), 0)
		h.store(plan.Mark(i), 0)
		return true
	}
	for i := 0; i < plan.Pages; i++ {
	again:
		seen := h.load(plan.Entry(i))
		e, err := header.DecodeEntry(seen)
		if err != api.OK {
			continue
		}
		if e.Ready(class, cycle) {
			if !h.cas(plan.Entry(i), seen, mine) {
				continue
			}
			alloc := h.load(plan.Alloc(i))
			if sizes.Room(class, alloc) > 0 {
				return true, i, alloc
			}
			h.store(plan.Entry(i), idle(class, cycle))
		} else if e.Due(cycle) && e.Kind == header.Small && e.Class == class {
			if s := h.sweep(t, cycle, i); s.swept && !s.empty {
				goto again
			}
		}
	}
	for i := range plan.Pages {
		if h.load(plan.Entry(i)) == 0 && obtain(i) {
			return true, i, 0
		}
	}
	for i := range plan.Pages {
		if h.sweep(t, cycle, i).empty && obtain(i) {
			return true, i, 0
		}
	}
	return false, 0, 0
}

// count counts from page 0 on and obtains n pages: the first one, or -1.
func (h *hands) count(t, cycle, n int) int {
	for f := 0; f < h.plan.Pages; {
		free := 0
		for free < n && f+free < h.plan.Pages && h.load(h.plan.Entry(f+free)) == 0 {
			free++
		}
		if free < n {
			f += free + 1
			continue
		}
		k := h.obtain(t, cycle, f, n)
		if k == n {
			h.store(h.plan.Alloc(f), 0)
			h.store(h.plan.Mark(f), 0)
			return f
		}
		f += k + 1
	}
	return -1
}

// obtain obtains n pages from page f on, or all but those that it gives back: how many.
func (h *hands) obtain(t, cycle, f, n int) int {
	if !h.cas(h.plan.Entry(f), 0, busyLarge(n, t, cycle)) {
		return 0
	}
	for k := 1; k < n; k++ {
		if !h.cas(h.plan.Entry(f+k), 0, tail(k)) {
			for j := k - 1; j >= 0; j-- {
				h.store(h.plan.Entry(f+j), 0)
			}
			return k
		}
	}
	return n
}

func (h *hands) run(t, cycle, n int) int {
	if h.plan.Pages < n {
		return -1
	}
	if f := h.count(t, cycle, n); f >= 0 {
		return f
	}
	for i := range h.plan.Pages {
		h.sweep(t, cycle, i)
	}
	return h.count(t, cycle, n)
}

// pair is a machine, and the chapter's words for it.
type pair struct {
	still
	model *model
}

func sweepPair(t *testing.T, plan layout.Plan, who, cycle, i int) pair {
	t.Helper()
	return pair{sweepAnswers(newSweep(t, plan, who, cycle, i)), begin(plan, []any{false, false, 0, false}, func(h *hands) []any {
		s := h.sweep(who, cycle, i)
		return []any{s.swept, s.empty, s.freed, s.blocked}
	})}
}

func claimPair(t *testing.T, plan layout.Plan, th, cycle, class int) pair {
	t.Helper()
	return pair{claimAnswers(newClaim(t, plan, th, cycle, class)), begin(plan, []any{false, 0, uint64(0)}, func(h *hands) []any {
		got, page, alloc := h.claim(th, cycle, class)
		return []any{got, page, alloc}
	})}
}

func runPair(t *testing.T, plan layout.Plan, th, cycle, n int) pair {
	t.Helper()
	none := []any{false, 0, header.Entry{}, api.ErrState}
	return pair{runAnswers(newRun(t, plan, th, cycle, n)), begin(plan, none, func(h *hands) []any {
		if f := h.run(th, cycle, n); f >= 0 {
			return []any{true, f, header.Entry{Kind: header.Large, Class: n, Cycle: cycle}, api.OK}
		}
		return none
	})}
}

func givePair(t *testing.T, plan layout.Plan, i int, e header.Entry, cycle int) pair {
	t.Helper()
	return pair{giveAnswers(newGive(t, plan, i, e, cycle)), begin(plan, nil, func(h *hands) []any {
		e.State, e.Owner, e.Cycle = header.Idle, 0, cycle
		h.store(plan.Entry(i), word(e))
		return nil
	})}
}

// twins is machines in one arena, and the chapter's words for each of them in another one.
type twins struct {
	t     *testing.T
	a, b  *arena.Arena
	pairs []pair
}

// step steps a machine and its model: they do the same, and say the same.
func (w *twins) step(i int) {
	w.t.Helper()
	m := w.pairs[i]
	p, q := port(w.t, w.a, i), port(w.t, w.b, i)
	p.Grant()
	q.Grant()
	over := m.m.Step(p)
	m.model.step(q)
	if over != m.m.Over() || over != m.model.over || p.Open() != q.Open() {
		w.t.Fatal("machine", i, "is over:", over, m.m.Over(), "as it should be:", m.model.over, "and has a grant:", p.Open(), q.Open())
	}
	if w.a.Count() != w.b.Count() || w.a.Faults() != 0 || lastOf(w.a) != lastOf(w.b) {
		w.t.Fatalf("machine %d: %+v, not %+v; %d faults", i, lastOf(w.a), lastOf(w.b), w.a.Faults())
	}
	if !same(m.answers(), m.model.answers) {
		w.t.Fatal("machine", i, "answers", m.answers(), "not", m.model.answers)
	}
}

func same(a, b []any) bool {
	for i := range a {
		if a[i] != b[i] {
			return false
		}
	}
	return len(a) == len(b)
}
