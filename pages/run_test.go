package pages_test

import (
	"testing"

	"windrow/api"
	"windrow/header"
)

// ran follows a story at whose end thread 1 has obtained n pages in cycle 5, from page i on; -1: none.
func ran(t *testing.T, n int, held []page, i int, told func(s *story)) {
	t.Helper()
	a, plan := heap(t, 2, held...)
	m := newRun(t, plan, 1, 5, n)
	s := tell(a, plan)
	told(s)
	s.follow(t, a, m)
	want, code := header.Entry{}, api.ErrState
	if i >= 0 {
		want, code = header.Entry{Kind: header.Large, Class: n, Cycle: 5}, api.OK
	}
	if e, err := m.Publish(); m.Got() != (i >= 0) || m.Page() != max(i, 0) || e != want || err != code {
		t.Errorf("%v, %d, %+v, %d, not %d", m.Got(), m.Page(), e, err, i)
	}
}

// run: the accesses that obtain n free pages from page i on.
func (s *story) run(i, n int) *story {
	s.parts(i, n, n)
	return s.store(s.plan.Alloc(i), 0).store(s.plan.Mark(i), 0)
}

// parts: the Cas of the first k of n pages from page i on.
func (s *story) parts(i, n, k int) *story {
	for j := range k {
		by := tail(j)
		if j == 0 {
			by = busyLarge(n, 1, 5)
		}
		s.cas(s.plan.Entry(i+j), 0, by)
	}
	return s
}

// taken: a page that no sweep touches.
func taken() page { return page{owned(3, 0, 5), 1, 1} }

// P9.1: the first pages that are free and stand one behind the other are obtained; what their other words hold says nothing.
func TestRunFree(t *testing.T) {
	free := page{0, 5, 6}
	for n := 1; n <= 4; n++ {
		ran(t, n, []page{free, free, free, free, free}, 0, func(s *story) { s.entries(upTo(n)...).run(0, n) })
		ran(t, n, []page{taken(), free, free, free, free}, 1, func(s *story) { s.entries(upTo(n+1)...).run(1, n) })
		held := append(make([]page, n-1), taken())
		ran(t, n, append(held, make([]page, 4)...), max(n, 1), func(s *story) { s.entries(upTo(2*n)...).run(n, n) })
	}
	for _, other := range []uint64{1, tail(1), large(1, 5), busyLarge(2, 15, 4), 1 << 63, ^uint64(0)} {
		ran(t, 2, []page{free, {entry: other}, free, {entry: other}, free, free, free}, 4, func(s *story) { s.entries(0, 1, 2, 3, 4, 5).run(4, 2) })
	}
}

// P9.1: a heap of fewer pages has nothing for it, and it makes no access.
func TestRunOfTooMany(t *testing.T) {
	for n := 1; n <= 4; n++ {
		for heapOf := 1; heapOf <= 5; heapOf++ {
			a, plan := heap(t, 1, make([]page, heapOf)...)
			m := newRun(t, plan, 0, 0, n)
			p := port(t, a, who)
			p.Grant()
			if m.Over() != (n > heapOf) {
				t.Error(n, "of", heapOf, m.Over())
			}
			if n <= heapOf {
				continue
			}
			if e, err := m.Publish(); !m.Step(p) || m.Got() || m.Page() != 0 || e != (header.Entry{}) || err != api.ErrState || !p.Open() || a.Count() != 0 {
				t.Error(n, "of", heapOf, m.Got(), m.Page(), e, err, p.Open())
			}
		}
	}
}

// P9.1: where the pages don't do, all are swept, and it counts once more.
func TestRunSweeps(t *testing.T) {
	due := func(mark uint64) page { return page{idle(6, 4), 1, mark} }
	swept := func(s *story, i int, kept, last uint64) { s.swept(i, idle(6, 4), busy(6, 1, 4), kept, last) }
	ran(t, 2, []page{due(0), due(1), due(0), due(0), due(0)}, 2, func(s *story) {
		s.entries(0, 1, 2, 3, 4)
		swept(s, 0, 0, 0)
		swept(s, 1, 1, idle(6, 5))
		swept(s, 2, 0, 0)
		swept(s, 3, 0, 0)
		swept(s, 4, 0, 0)
		s.entries(0, 1, 2, 3).run(2, 2)
	})
	// The last page is free, but alone; the sweeps free nothing.
	ran(t, 2, []page{{}, taken(), {}}, -1, func(s *story) { s.entries(0, 1, 2).entries(0, 1, 2).entries(0, 1, 2) })
	ran(t, 3, []page{{}, taken(), {}, {}}, -1, func(s *story) { s.entries(0, 1, 2, 3).entries(0, 1, 2, 3).entries(0, 1, 2, 3) })
	ran(t, 1, []page{taken()}, -1, func(s *story) { s.entries(0).entries(0).entries(0) })
	// A large object's pages.
	ran(t, 3, []page{{large(3, 4), 1, 0}, {tail(1), 0, 0}, {tail(2), 0, 0}}, 0, func(s *story) {
		p := s.plan
		s.entries(0, 1, 2).entries(0).cas(p.Entry(0), large(3, 4), busyLarge(3, 1, 4)).load(p.Mark(0)).load(p.Alloc(0)).store(p.Alloc(0), 0).store(p.Mark(0), 0).store(p.Entry(2), 0).store(p.Entry(1), 0).store(p.Entry(0), 0)
		s.entries(1, 2).entries(0, 1, 2).run(0, 3)
	})
	// A sweep that finds the page taken meanwhile.
	ran(t, 1, []page{due(0)}, -1, func(s *story) {
		at := s.plan.Entry(0)
		s.entries(0).entries(0).other(at, busy(6, 15, 4)).cas(at, idle(6, 4), busy(6, 1, 4)).entries(0)
	})
}

// P9.1: where somebody else takes the first page, it counts from the one behind on.
func TestRunLosesTheFirst(t *testing.T) {
	lose := func(s *story, i, n int) {
		s.other(s.plan.Entry(i), owned(0, 0, 5)).cas(s.plan.Entry(i), 0, busyLarge(n, 1, 5))
	}
	ran(t, 2, make([]page, 4), 1, func(s *story) {
		s.entries(0, 1)
		lose(s, 0, 2)
		s.entries(1, 2).run(1, 2)
	})
	// The page behind is the last one: it is examined, and doesn't do. The second time it loses again.
	ran(t, 2, make([]page, 2), -1, func(s *story) {
		s.entries(0, 1)
		lose(s, 0, 2)
		s.entries(1).entries(0, 1).other(s.plan.Entry(0), 0).entries(0, 1)
		lose(s, 0, 2)
		s.entries(1)
	})
	// There is no page behind it.
	ran(t, 1, []page{{}}, -1, func(s *story) {
		s.entries(0)
		lose(s, 0, 1)
		s.entries(0).other(s.plan.Entry(0), 0).entries(0)
		lose(s, 0, 1)
	})
	// The second time it gets them.
	ran(t, 2, make([]page, 2), 0, func(s *story) {
		s.entries(0, 1)
		lose(s, 0, 2)
		s.entries(1).entries(0, 1).other(s.plan.Entry(0), 0).entries(0, 1).run(0, 2)
	})
}

// P9.1: where somebody else takes a page behind the first one, all is given back, from the last one down, and it counts behind that page.
func TestRunLosesAnother(t *testing.T) {
	for n := 2; n <= 4; n++ {
		for k := 1; k < n; k++ {
			lose := func(s *story) {
				s.entries(upTo(n)...).parts(0, n, k).other(s.plan.Entry(k), owned(0, 0, 5)).cas(s.plan.Entry(k), 0, tail(k))
				for j := k - 1; j >= 0; j-- {
					s.store(s.plan.Entry(j), 0)
				}
			}
			ran(t, n, make([]page, k+1+n), k+1, func(s *story) {
				lose(s)
				s.load(s.plan.Entry(k + 1))
				for j := k + 2; j <= k+n; j++ {
					s.load(s.plan.Entry(j))
				}
				s.run(k+1, n)
			})
			// No more than the pages that it wanted are there: those behind are examined, then all are swept.
			ran(t, n, make([]page, n), 0, func(s *story) {
				lose(s)
				for j := k + 1; j < n; j++ {
					s.load(s.plan.Entry(j))
				}
				s.entries(upTo(n)...).other(s.plan.Entry(k), 0).entries(upTo(n)...).run(0, n)
			})
		}
	}
}

// Publish: the entry with which another worker may sweep the object in a later cycle.
func TestPublish(t *testing.T) {
	for n := 1; n <= 4; n++ {
		for th, cycle := range []int{0, 1, api.MaxCycle} {
			a, plan := heap(t, 3, make([]page, 4)...)
			m := newRun(t, plan, th, cycle, n)
			for k := 0; !m.Over(); k++ {
				if e, err := m.Publish(); e != (header.Entry{}) || err != api.ErrState || m.Got() || m.Page() != 0 || k == most {
					t.Fatal("ahead of the end:", e, err, m.Got(), m.Page())
				}
				p := port(t, a, who)
				p.Grant()
				m.Step(p)
			}
			e, err := m.Publish()
			if e != (header.Entry{Kind: header.Large, Class: n, State: header.Idle, Owner: 0, Cycle: cycle}) || err != api.OK {
				t.Error(n, cycle, e, err)
			}
			word, err := header.EncodeEntry(e)
			if err != api.OK || peek(t, a, plan.Entry(0)) != busyLarge(n, th, cycle) || e.Due(cycle) || cycle < api.MaxCycle && !e.Due(cycle+1) {
				t.Error(n, cycle, word, err)
			}
		}
	}
}
