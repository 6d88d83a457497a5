package pages_test

import (
	"slices"
	"testing"

	"windrow/api"
	"windrow/arena"
	"windrow/header"
	"windrow/layout"
	"windrow/pages"
)

// anyPair: a machine of any kind, that works in a cycle or in one before it.
func anyPair(t *testing.T, random *seed, plan layout.Plan, cycle int) pair {
	t.Helper()
	c := cycle - random.below(2)
	switch random.below(7) {
	case 0, 1, 2:
		return claimPair(t, plan, random.below(plan.Threads), c, pick(random, 3, 7, 3))
	case 3, 4:
		return runPair(t, plan, random.below(plan.Threads), c, 1+random.below(min(4, plan.Pages)))
	case 5:
		return sweepPair(t, plan, pick(random, 0, 1, 15, 15), c, random.below(plan.Pages))
	}
	e := header.Entry{Kind: pick(random, header.Small, header.Small, header.Large), Class: pick(random, 3, 2)}
	return givePair(t, plan, random.below(plan.Pages), e, c)
}

// P9.1, P9.4: many machines in one heap, of which each entry may be anything, in orders without a pattern: they do what the chapter says.
func TestManyAsTheChapterSays(t *testing.T) {
	random := seed(88172645463325252)
	for range 1200 {
		cycle := 3 + random.below(2)
		held := make([]page, 1+random.below(5))
		for i := range held {
			if random.below(3) > 0 {
				held[i] = anyPage(&random, cycle)
			}
		}
		a, plan := heap(t, 3, held...)
		b, _ := heap(t, 3, held...)
		w := &twins{t: t, a: a, b: b}
		for range 2 + random.below(3) {
			w.pairs = append(w.pairs, anyPair(t, &random, plan, cycle))
		}
		for range 120 {
			i := random.below(len(w.pairs))
			if w.pairs[i].m.Over() && random.below(3) > 0 {
				w.pairs[i] = anyPair(t, &random, plan, cycle+random.below(2))
			}
			w.step(i)
		}
		for _, m := range w.pairs {
			m.model.stop()
		}
		if !slices.Equal(a.Image(), b.Image()) {
			t.Fatal(a.Image(), b.Image())
		}
	}
}

// P9.1: two machines in a small heap, in all orders of their first ten steps, and then one after the other.
func TestTwoInAllOrders(t *testing.T) {
	claim := func(th, cycle, class int) func(layout.Plan) pair {
		return func(plan layout.Plan) pair { return claimPair(t, plan, th, cycle, class) }
	}
	sweep := func(cycle int) func(layout.Plan) pair {
		return func(plan layout.Plan) pair { return sweepPair(t, plan, 15, cycle, 0) }
	}
	run := func(th, n int) func(layout.Plan) pair {
		return func(plan layout.Plan) pair { return runPair(t, plan, th, 5, n) }
	}
	for _, heapOf := range [][]page{{{}, {}}, {{idle(3, 5), 1, 0}, {idle(3, 4), 3, 1}}, {{idle(3, 4), 1, 0}, {}}, {{idle(6, 4), 1, 0}, {idle(6, 4), 1, 1}}, {{large(2, 4), 1, 0}, {tail(1), 0, 0}}} {
		for _, two := range [][2]func(layout.Plan) pair{{claim(0, 5, 3), claim(1, 5, 3)}, {claim(0, 5, 3), claim(1, 4, 3)}, {claim(0, 5, 3), sweep(5)}, {claim(0, 5, 6), sweep(4)}, {run(0, 2), claim(1, 5, 3)}, {run(0, 2), run(1, 2)}, {run(0, 1), sweep(5)}} {
			for order := range 1 << 10 {
				inOrder(t, heapOf, two, order)
			}
		}
	}
}

func inOrder(t *testing.T, held []page, two [2]func(layout.Plan) pair, order int) {
	t.Helper()
	a, plan := heap(t, 2, held...)
	b, _ := heap(t, 2, held...)
	w := &twins{t: t, a: a, b: b, pairs: []pair{two[0](plan), two[1](plan)}}
	for n := range 10 {
		w.step(order >> n & 1)
	}
	for i, m := range w.pairs {
		for n := 0; !m.m.Over(); n++ {
			if n == most {
				t.Fatal(order, "doesn't end")
			}
			w.step(i)
		}
	}
	if !slices.Equal(a.Image(), b.Image()) {
		t.Fatal(order, a.Image(), b.Image())
	}
}

// P9.4: whatever the words of the pages are, and wherever others have left off, a machine that alone is stepped ends.
func TestEachEndsAlone(t *testing.T) {
	random := seed(521288629)
	for range 1500 {
		held := make([]page, 1+random.below(6))
		for i := range held {
			held[i] = anyPage(&random, 4)
		}
		a, plan := heap(t, 3, held...)
		var all []pair
		for range 4 {
			all = append(all, anyPair(t, &random, plan, 4))
		}
		p := port(t, a, who)
		for range random.below(60) {
			p.Grant()
			all[random.below(4)].m.Step(p)
		}
		finish(t, a, all[random.below(4)].m)
		for _, m := range all {
			m.model.stop()
		}
	}
}

// worker is a thread that obtains pages and gives them back, or the collector, who sweeps.
type worker struct {
	id      int
	cycle   int
	class   int
	claim   *pages.Claim
	run     *pages.Run
	sweep   *pages.Sweep
	give    *pages.Give
	giving  int // the page that it gives back
	excused []bool
}

// market is workers in one heap.
type market struct {
	t       *testing.T
	random  *seed
	a       *arena.Arena
	plan    layout.Plan
	cycle   int
	workers []*worker
	holder  []int // of each page: who has obtained it, or -1
	first   []int // of each page that somebody has: the first one of those obtained with it
	log     int   // how many accesses were looked at
	claims  int
	runs    int
	sweeps  int
	refused int
}

func open(t *testing.T, random *seed) *market {
	t.Helper()
	held := make([]page, 1+random.below(5))
	for i := range held {
		held[i].alloc, held[i].mark = random.next()&starts3, random.next()
		if random.below(2) == 0 {
			held[i].entry = idle(pick(random, 3, 3, 7, 0), 2+random.below(3))
		}
	}
	m := &market{t: t, random: random, cycle: 4}
	m.a, m.plan = heap(t, 3, held...)
	for id := range 3 {
		m.workers = append(m.workers, &worker{id: id, cycle: 4})
	}
	m.workers = append(m.workers, &worker{id: api.CollectorID, cycle: 4})
	for range held {
		m.holder, m.first = append(m.holder, -1), append(m.first, -1)
	}
	return m
}

// machine: what a worker is at; nil: nothing.
func (w *worker) machine() machine {
	switch {
	case w.claim != nil:
		return w.claim
	case w.run != nil:
		return w.run
	case w.sweep != nil:
		return w.sweep
	case w.give != nil:
		return w.give
	}
	return nil
}

// begin gives a worker something to do.
func (m *market) begin(w *worker) {
	w.cycle = max(w.cycle, m.cycle-m.random.below(2))
	if w.id == api.CollectorID {
		w.sweep = newSweep(m.t, m.plan, w.id, w.cycle, m.random.below(m.plan.Pages))
		return
	}
	switch m.random.below(5) {
	case 0, 1:
		w.class, w.excused = pick(m.random, 3, 7), make([]bool, m.plan.Pages)
		w.claim = newClaim(m.t, m.plan, w.id, w.cycle, w.class)
		m.excuse()
	case 2:
		w.run = newRun(m.t, m.plan, w.id, w.cycle, 1+m.random.below(min(3, m.plan.Pages)))
	default:
		m.giveBack(w)
	}
}

// giveBack lets a worker give back a page that it has, if there is one; that page isn't its own any longer when the access is made.
func (m *market) giveBack(w *worker) {
	at := m.random.below(m.plan.Pages)
	if m.holder[at] != w.id {
		return
	}
	at = m.first[at]
	e, err := header.DecodeEntry(peek(m.t, m.a, m.plan.Entry(at)))
	if err != api.OK || e.Owner != w.id || e.State == header.Idle {
		m.t.Fatal("the entry of a page that", w.id, "has:", e, err)
	}
	// What the thread has made there; some of it is marked.
	m.a.Poke(m.plan.Alloc(at), m.random.next()|1)
	m.a.Poke(m.plan.Mark(at), m.random.next()&m.random.next())
	w.giving, w.give = at, newGive(m.t, m.plan, at, e, e.Cycle)
}

// step steps a worker, and looks at what came of it.
func (m *market) step(w *worker) {
	m.t.Helper()
	if w.machine() == nil {
		m.begin(w)
	}
	now := w.machine()
	if now == nil {
		return
	}
	words := m.words()
	p := port(m.t, m.a, w.id)
	p.Grant()
	over := now.Step(p)
	m.look(w)
	m.excuse()
	if over {
		m.end(w, words)
	}
}

// words: what the pages' words hold.
func (m *market) words() []page {
	var l []page
	for i := range m.plan.Pages {
		l = append(l, page{peek(m.t, m.a, m.plan.Entry(i)), peek(m.t, m.a, m.plan.Alloc(i)), peek(m.t, m.a, m.plan.Mark(i))})
	}
	return l
}

// look: nobody but the one who has a page changes its words (P9.2).
func (m *market) look(w *worker) {
	m.t.Helper()
	for n, made := range m.a.Log() {
		spot := m.plan.Find(made.At)
		if n < m.log || made.Kind == api.AccLoad || made.Seen == made.Left && made.Kind == api.AccCas {
			continue
		}
		if spot.Kind != layout.IsEntry && spot.Kind != layout.IsAlloc && spot.Kind != layout.IsMark {
			m.t.Fatalf("%d changes a cell that is none of a page: %+v", w.id, made)
		}
		giving := w.give != nil && m.first[spot.I] == w.giving && spot.Kind == layout.IsEntry
		if m.holder[spot.I] >= 0 && !giving {
			m.t.Fatalf("page %d belongs to %d, and %d makes %+v", spot.I, m.holder[spot.I], w.id, made)
		}
	}
	m.log = m.a.Count()
}

// hold: a worker has obtained pages that nobody has.
func (m *market) hold(w *worker, first, n int) {
	m.t.Helper()
	for i := first; i < first+n; i++ {
		if m.holder[i] >= 0 {
			m.t.Fatal("page", i, "is obtained by", w.id, "though", m.holder[i], "has it")
		}
		m.holder[i], m.first[i] = w.id, first
	}
}

// end looks at what a machine answers that is over; words: what the pages held ahead of its last step.
func (m *market) end(w *worker, words []page) {
	m.t.Helper()
	switch {
	case w.claim != nil:
		m.endClaim(w)
	case w.run != nil:
		if w.run.Got() {
			e, _ := w.run.Publish()
			m.hold(w, w.run.Page(), e.Class)
			m.runs++
		}
	case w.sweep != nil:
		m.endSweep(w, words)
	case w.give != nil:
		for i := range m.holder {
			if m.first[i] == w.giving {
				m.holder[i], m.first[i] = -1, -1
			}
		}
	}
	w.claim, w.run, w.sweep, w.give = nil, nil, nil, nil
}

func (m *market) endClaim(w *worker) {
	m.t.Helper()
	if w.claim.Got() {
		m.hold(w, w.claim.Page(), 1)
		m.claims++
		if e := peek(m.t, m.a, m.plan.Entry(w.claim.Page())); e != owned(w.class, w.id, w.cycle) {
			m.t.Fatalf("page %d has the entry %x", w.claim.Page(), e)
		}
		return
	}
	m.refused++
	if i := slices.Index(w.excused, false); i >= 0 {
		m.t.Fatal(w.id, "got no page, though page", i, "could be had all the time")
	}
}

// endSweep: no cell of a page that was swept is marked, and the page is free or given (P9.3).
func (m *market) endSweep(w *worker, words []page) {
	m.t.Helper()
	if !w.sweep.Swept() {
		return
	}
	m.sweeps++
	last := lastOf(m.a)
	at := m.plan.Find(last.At).I
	if words[at].mark != 0 || (words[at].alloc == 0) != w.sweep.Empty() || (last.Left == 0) != w.sweep.Empty() {
		m.t.Fatalf("swept: %x, then %+v", words[at], last)
	}
}

// excuse tells each claim which pages it couldn't have had now (P9.5).
func (m *market) excuse() {
	for i, h := range m.words() {
		for _, w := range m.workers {
			if w.claim != nil && hopeless(m.plan, h, i, w.cycle, w.class) {
				w.excused[i] = true
			}
		}
	}
}

// P9.2, P9.3, P9.5: threads that obtain pages and give them back, and one that sweeps, some of them a cycle behind, in orders without a pattern.
func TestMarket(t *testing.T) {
	random := seed(2463534242)
	var claims, runs, sweeps, refused int
	for range 400 {
		m := open(t, &random)
		for range 300 {
			m.step(m.workers[random.below(len(m.workers))])
			if random.below(50) == 0 {
				m.cycle++
			}
		}
		if m.a.Faults() != 0 {
			t.Fatal(m.a.Faults(), "faults")
		}
		claims, runs, sweeps, refused = claims+m.claims, runs+m.runs, sweeps+m.sweeps, refused+m.refused
	}
	if min(claims, runs, sweeps, refused) < 300 {
		t.Error("hardly tried:", claims, "claims that got a page,", refused, "that got none,", runs, "runs,", sweeps, "sweeps")
	}
}

// P9.5: a worker that is a cycle behind changes nothing in pages that a later cycle has swept, or whose objects it may not free.
func TestCycleBehind(t *testing.T) {
	held := []page{{idle(3, 6), 1, 0}, {large(2, 6), 1, 0}, {tail(1), 0, 0}, {idle(3, 7), 0, 0}, {owned(3, 0, 6), 0, 0}, {busy(3, 15, 6), 1, 0}, {large(1, api.MaxCycle), 0, 0}}
	for cycle := range 6 {
		a, plan := heap(t, 2, held...)
		before := a.Image()
		for i := range plan.Pages {
			m := newSweep(t, plan, 15, cycle, i)
			finish(t, a, m)
			if m.Swept() || m.Blocked() || m.Freed() != 0 {
				t.Error(cycle, i, m.Swept(), m.Blocked(), m.Freed())
			}
		}
		claim, run := newClaim(t, plan, 1, cycle, 3), newRun(t, plan, 1, cycle, 2)
		finish(t, a, claim)
		finish(t, a, run)
		if claim.Got() || run.Got() || !slices.Equal(a.Image(), before) {
			t.Error(cycle, claim.Got(), run.Got(), a.Image())
		}
	}
}
