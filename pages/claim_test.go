package pages_test

import (
	"testing"

	"windrow/api"
	"windrow/header"
	"windrow/layout"
	"windrow/sizes"
)

// Class 3 has cells of 6 words, 10 in a page.
const (
	starts3 = 1 | 1<<6 | 1<<12 | 1<<18 | 1<<24 | 1<<30 | 1<<36 | 1<<42 | 1<<48 | 1<<54
	class3  = 3
)

// claimed follows a story at whose end thread 1 has obtained a page of class 3 in cycle 5; page -1: none.
func claimed(t *testing.T, held []page, i int, alloc uint64, told func(s *story)) {
	t.Helper()
	a, plan := heap(t, 2, held...)
	m := newClaim(t, plan, 1, 5, class3)
	s := tell(a, plan)
	told(s)
	s.follow(t, a, m)
	if m.Got() != (i >= 0) || m.Page() != max(i, 0) || m.Alloc() != alloc {
		t.Errorf("%v, %d, %x, not %d, %x", m.Got(), m.Page(), m.Alloc(), i, alloc)
	}
}

// mine: the obtained entry.
func mine() uint64 { return owned(class3, 1, 5) }

// others: pages that a claim passes in each round, and that no sweep frees.
func others() []page {
	return []page{
		{owned(3, 1, 5), 0, 0}, {owned(3, 0, 4), 0, 0}, {idle(2, 5), 1, 0}, {idle(3, 6), 0, 0}, {busy(3, 0, 4), 0, 0}, {busy(3, 15, 5), 0, 0}, {large(1, 5), 1, 0}, {large(2, 6), 1, 0}, {tail(1), 0, 0}, {large(4, 1), 1, 1}, {busyLarge(1, 0, 4), 0, 0},
		{idle(3, 5) | 1<<63, 0, 0}, {idle(3, 4) | 1<<13, 0, 0}, {1 << 63, 0, 0}, {entry(1, 3, 0, 2, 5), 0, 0},
	}
}

// the numbers from 0 up to n - 1.
func upTo(n int) []int {
	var l []int
	for i := range n {
		l = append(l, i)
	}
	return l
}

// P9.1: the first round takes a page that is ready and has room, behind all that are not.
func TestClaimReady(t *testing.T) {
	before := others()
	n := len(before)
	for _, alloc := range []uint64{0, 1, starts3 &^ 1, starts3 &^ (1 << 54), ^uint64(starts3), ^uint64(1 << 12), 0x3F} {
		claimed(t, append(others(), page{idle(3, 5), alloc, 77}, page{idle(3, 5), 0, 0}, page{}), n, alloc, func(s *story) {
			s.entries(upTo(n+1)...).cas(s.plan.Entry(n), idle(3, 5), mine()).load(s.plan.Alloc(n))
		})
	}
}

// P9.1: a page that is ready and full is given back, whatever the bits are at which no cell begins; the next round comes when there is no other.
func TestClaimFull(t *testing.T) {
	for _, alloc := range []uint64{starts3, starts3 | 2, ^uint64(0)} {
		full := page{idle(3, 5), alloc, 0}
		round := func(s *story, i int) {
			s.entries(i).cas(s.plan.Entry(i), idle(3, 5), mine()).load(s.plan.Alloc(i)).store(s.plan.Entry(i), idle(3, 5))
		}
		claimed(t, []page{full, full, {idle(3, 5), 1, 0}}, 2, 1, func(s *story) {
			round(s, 0)
			round(s, 1)
			s.entries(2).cas(s.plan.Entry(2), idle(3, 5), mine()).load(s.plan.Alloc(2))
		})
		claimed(t, []page{full, {}, full}, 1, 0, func(s *story) {
			round(s, 0)
			s.entries(1)
			round(s, 2)
			s.entries(0, 1).obtained(1, mine())
		})
		claimed(t, []page{full}, -1, 0, func(s *story) {
			round(s, 0)
			s.entries(0).entries(0)
		})
	}
}

// P9.1: a page of the class that is due is swept in the first round, and then taken if a cell stayed allocated and one is free.
func TestClaimSweepsItsClass(t *testing.T) {
	due := func(alloc, mark uint64) page { return page{idle(3, 2), alloc, mark} }
	some := uint64(1 | 1<<12)
	sweep := func(s *story, i int, kept, last uint64) {
		s.entries(i).swept(i, idle(3, 2), busy(3, 1, 2), kept, last)
	}
	again := func(s *story, i int) {
		s.entries(i).cas(s.plan.Entry(i), idle(3, 5), mine()).load(s.plan.Alloc(i))
	}
	claimed(t, []page{due(starts3, some), due(starts3, some)}, 0, some, func(s *story) {
		sweep(s, 0, some, idle(3, 5))
		again(s, 0)
	})
	// One that stays full is given back, and one that becomes empty is left for the second round.
	claimed(t, []page{due(starts3, starts3), due(starts3, 0), {idle(2, 2), 1, 0}}, 1, 0, func(s *story) {
		sweep(s, 0, starts3, idle(3, 5))
		again(s, 0)
		s.store(s.plan.Entry(0), idle(3, 5))
		sweep(s, 1, 0, 0)
		s.entries(2).entries(0, 1).obtained(1, mine())
	})
	// A page of another class, or of a large object, waits for the third round.
	claimed(t, []page{{idle(2, 2), 1, 1}, {large(1, 2), 1, 0}, due(0, 0)}, 2, 0, func(s *story) {
		s.entries(0, 1)
		sweep(s, 2, 0, 0)
		s.entries(0, 1, 2).obtained(2, mine())
	})
}

// P9.1: where somebody else is faster, the next page follows; a sweep that finds the page taken is no sweep.
func TestClaimIsSlower(t *testing.T) {
	ready, due := page{idle(3, 5), 1, 0}, page{idle(3, 4), 1, 1}
	at := func(s *story, i int) int { return s.plan.Entry(i) }
	claimed(t, []page{ready, ready}, 1, 1, func(s *story) {
		s.entries(0).other(at(s, 0), owned(3, 0, 5)).cas(at(s, 0), idle(3, 5), mine())
		s.entries(1).cas(at(s, 1), idle(3, 5), mine()).load(s.plan.Alloc(1))
	})
	// Ahead of the sweep's Load; between that and its Cas.
	claimed(t, []page{due, due, ready}, 2, 1, func(s *story) {
		s.entries(0).other(at(s, 0), busy(3, 15, 4)).entries(0)
		s.entries(1).entries(1).other(at(s, 1), busy(3, 15, 4)).cas(at(s, 1), idle(3, 4), busy(3, 1, 4))
		s.entries(2).cas(at(s, 2), idle(3, 5), mine()).load(s.plan.Alloc(2))
	})
	// Swept by somebody else ahead of the sweep's Load: it isn't looked at again in this round.
	claimed(t, []page{due}, -1, 0, func(s *story) {
		s.entries(0).other(at(s, 0), idle(3, 5)).entries(0).entries(0).entries(0)
	})
	// Behind its own sweep the page is examined again, as it then is.
	claimed(t, []page{due}, 0, 1, func(s *story) {
		s.entries(0).swept(0, idle(3, 4), busy(3, 1, 4), 1, idle(3, 5)).other(at(s, 0), idle(3, 3)).other(s.plan.Mark(0), 1)
		s.entries(0).swept(0, idle(3, 3), busy(3, 1, 3), 1, idle(3, 5))
		s.entries(0).cas(at(s, 0), idle(3, 5), mine()).load(s.plan.Alloc(0))
	})
	// The second round.
	claimed(t, []page{{}, {}}, 1, 0, func(s *story) {
		s.entries(0, 1).entries(0).other(at(s, 0), owned(1, 0, 5)).cas(at(s, 0), 0, mine()).entries(1).obtained(1, mine())
	})
	claimed(t, []page{{}}, -1, 0, func(s *story) {
		s.entries(0).entries(0).other(at(s, 0), owned(1, 0, 5)).cas(at(s, 0), 0, mine()).entries(0)
	})
}

// P9.1: the third round takes a page that its own sweep makes free, also the first one of a large object.
func TestClaimEmpties(t *testing.T) {
	small := func(s *story, i int) { s.swept(i, idle(6, 4), busy(6, 1, 4), 0, 0) }
	claimed(t, []page{{owned(3, 0, 5), 1, 0}, {idle(6, 4), 3, 2}, {idle(6, 4), 1, 2}, {idle(6, 4), 1, 0}}, 2, 0, func(s *story) {
		s.entries(0, 1, 2, 3).entries(0, 1, 2, 3)
		s.entries(0).swept(1, idle(6, 4), busy(6, 1, 4), 2, idle(6, 5))
		small(s, 2)
		s.obtained(2, mine())
	})
	claimed(t, []page{{tail(1), 0, 0}, {large(3, 1), 1, 2}, {tail(1), 8, 8}, {tail(2), 8, 8}}, 1, 0, func(s *story) {
		p := s.plan
		s.entries(0, 1, 2, 3).entries(0, 1, 2, 3).entries(0, 1).cas(p.Entry(1), large(3, 1), busyLarge(3, 1, 1)).load(p.Mark(1)).load(p.Alloc(1)).store(p.Alloc(1), 0).store(p.Mark(1), 0)
		s.store(p.Entry(3), 0).store(p.Entry(2), 0).store(p.Entry(1), 0).obtained(1, mine())
	})
	// What is taken by somebody else behind the sweep is passed; what became free meanwhile isn't looked for.
	claimed(t, []page{{idle(6, 4), 1, 0}, {owned(3, 0, 5), 1, 0}, {idle(6, 4), 1, 0}}, 2, 0, func(s *story) {
		s.entries(0, 1, 2).entries(0, 1, 2)
		small(s, 0)
		s.other(s.plan.Entry(0), owned(6, 0, 5)).cas(s.plan.Entry(0), 0, mine()).other(s.plan.Entry(1), 0).entries(1)
		small(s, 2)
		s.obtained(2, mine())
	})
	claimed(t, []page{{idle(6, 4), 1, 0}}, -1, 0, func(s *story) {
		s.entries(0).entries(0)
		small(s, 0)
		s.other(s.plan.Entry(0), owned(6, 0, 5)).cas(s.plan.Entry(0), 0, mine())
	})
}

// P9.5: pages that are owned, busy, of others, full or of a later cycle are looked at three times, and left as they are.
func TestClaimNone(t *testing.T) {
	held := others()
	claimed(t, held, -1, 0, func(s *story) {
		s.entries(upTo(len(held))...).entries(upTo(len(held))...)
		for i := range held {
			if i != 9 {
				s.entries(i)
				continue
			}
			s.entries(i).cas(s.plan.Entry(i), large(4, 1), busyLarge(4, 1, 1)).load(s.plan.Mark(i)).load(s.plan.Alloc(i)).store(s.plan.Alloc(i), 1).store(s.plan.Mark(i), 0).store(s.plan.Entry(i), large(4, 5))
		}
	})
}

// P9.1: in a heap of free pages, each class, thread and cycle; page after page, until there is none.
func TestClaimFresh(t *testing.T) {
	for class := range sizes.Classes {
		for th := range 6 {
			cycle := []int{0, 1, 2, 77, api.MaxCycle - 1, api.MaxCycle}[th]
			a, plan := heap(t, 6, make([]page, 3)...)
			by := owned(class, th, cycle)
			for n := range 3 {
				m := newClaim(t, plan, th, cycle, class)
				tell(a, plan).entries(0, 1, 2).entries(upTo(n+1)...).obtained(n, by).follow(t, a, m)
				if !m.Got() || m.Page() != n || m.Alloc() != 0 {
					t.Error(class, th, m.Got(), m.Page(), m.Alloc())
				}
			}
			m := newClaim(t, plan, th, cycle, class)
			tell(a, plan).entries(0, 1, 2).entries(0, 1, 2).entries(0, 1, 2).follow(t, a, m)
			if m.Got() || m.Page() != 0 || m.Alloc() != 0 {
				t.Error(class, th, m.Got(), m.Page(), m.Alloc())
			}
		}
	}
}

// A page that was given back is ready for the cycle by which it was given, with what is allocated in it.
func TestClaimGiven(t *testing.T) {
	a, plan := heap(t, 2, page{})
	first := newClaim(t, plan, 0, 4, 2)
	finish(t, a, first)
	a.Poke(plan.Alloc(0), 1|1<<4)
	finish(t, a, newGive(t, plan, first.Page(), header.Entry{Kind: header.Small, Class: 2, State: header.Owned, Owner: 0, Cycle: 4}, 4))
	second := newClaim(t, plan, 1, 4, 2)
	finish(t, a, second)
	if !second.Got() || second.Page() != 0 || second.Alloc() != 1|1<<4 || peek(t, a, plan.Entry(0)) != owned(2, 1, 4) {
		t.Error(second.Got(), second.Page(), second.Alloc())
	}
}

// hopeless: can a claim that is alone get no page of this one? It is owned, busy, of others that stay, full, or swept by a later cycle.
func hopeless(plan layout.Plan, h page, i, cycle, class int) bool {
	e, err := header.DecodeEntry(h.entry)
	switch {
	case err != api.OK || e.State != header.Idle || e.Kind == header.Tail:
		return true
	case e.Kind == header.Free:
		return false
	case e.Cycle < cycle && e.Kind == header.Large:
		return i+e.Class > plan.Pages || h.alloc&h.mark&1 == 1
	case e.Cycle < cycle && e.Class == class:
		return h.alloc&h.mark != 0 && sizes.Room(class, h.alloc&h.mark) == 0
	case e.Cycle < cycle:
		return h.alloc&h.mark != 0
	}
	return !e.Ready(class, cycle) || sizes.Room(class, h.alloc) == 0
}

// anyPage: words of a page, of each kind.
func anyPage(random *seed, cycle int) page {
	class := pick(random, 3, 3, 7, random.below(8))
	c := max(cycle-2+random.below(4), 0)
	h := page{alloc: pick(random, 0, 1, starts3, starts3, 1|1<<32, random.next()), mark: pick(random, 0, 0, 1, starts3, random.next())}
	switch random.below(9) {
	case 0:
		h.entry = 0
	case 1, 2, 3:
		h.entry = idle(class, c)
	case 4:
		h.entry = owned(class, random.below(6), c)
	case 5:
		h.entry = busy(class, pick(random, 0, 1, 15), c)
	case 6:
		h.entry = large(1+random.below(4), c)
	case 7:
		h.entry = pick(random, tail(1+random.below(3)), busyLarge(1+random.below(4), 15, c))
	case 8:
		h.entry = pick(random, random.next(), idle(class, c)|1<<63, 8, 1<<47)
	}
	return h
}

// P9.4, P9.5: a claim alone, in heaps of all kinds, ends; it gets a page exactly if one isn't hopeless.
func TestClaimAlone(t *testing.T) {
	random := seed(362436069)
	none := 0
	for range 4000 {
		cycle, class := 3+random.below(3), pick(&random, 3, 7)
		held := make([]page, 1+random.below(4))
		for i := range held {
			held[i] = anyPage(&random, cycle)
		}
		a, plan := heap(t, 2, held...)
		hope := false
		for i, h := range held {
			hope = hope || !hopeless(plan, h, i, cycle, class)
		}
		m := newClaim(t, plan, 1, cycle, class)
		finish(t, a, m)
		if m.Got() != hope {
			t.Fatalf("%x, cycle %d, class %d: %v", held, cycle, class, m.Got())
		}
		if !hope {
			none++
			continue
		}
		if e := peek(t, a, plan.Entry(m.Page())); e != owned(class, 1, cycle) || sizes.Room(class, m.Alloc()) == 0 || peek(t, a, plan.Alloc(m.Page())) != m.Alloc() {
			t.Fatalf("%x: page %d, %x, %x", held, m.Page(), e, m.Alloc())
		}
	}
	if none < 400 || none > 3600 {
		t.Error(none, "of 4000 claims got none: one of both ways is hardly tried")
	}
}
