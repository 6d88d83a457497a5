package pages_test

import (
	"math"
	"math/bits"
	"testing"

	"windrow/api"
)

// unSwept follows a story at whose end the page was not swept.
func unSwept(t *testing.T, held []page, i, cycle int, blocked bool, told func(s *story)) {
	t.Helper()
	a, plan := heap(t, 2, held...)
	m := newSweep(t, plan, 15, cycle, i)
	s := tell(a, plan)
	told(s)
	s.follow(t, a, m)
	if m.Swept() || m.Empty() || m.Freed() != 0 || m.Blocked() != blocked {
		t.Errorf("%x in cycle %d: %v, %v, %d, %v", held[i].entry, cycle, m.Swept(), m.Empty(), m.Freed(), m.Blocked())
	}
}

// P9.1: a page that isn't due is looked at once; it blocks if it is busy with a smaller cycle.
func TestSweepNotDue(t *testing.T) {
	for _, known := range []struct {
		entry   uint64
		cycle   int
		blocked bool
	}{
		{0, 5, false}, {idle(3, 5), 5, false}, {idle(3, 6), 5, false}, {idle(0, 0), 0, false}, {idle(7, api.MaxCycle), api.MaxCycle, false},
		{owned(3, 1, 4), 5, false}, {owned(3, 1, 0), 5, false}, {owned(0, 5, 6), 5, false},
		{busy(3, 1, 4), 5, true}, {busy(3, 15, 0), 5, true}, {busy(3, 15, 5), 5, false}, {busy(3, 0, 6), 5, false}, {busy(0, 0, 0), 0, false}, {busy(7, 15, api.MaxCycle-1), api.MaxCycle, true},
		{large(1, 5), 5, false}, {large(1, 6), 5, false}, {busyLarge(1, 15, 4), 5, true}, {busyLarge(1, 2, 5), 5, false}, {busyLarge(4, 2, 4), 5, true},
		{tail(1), 5, false}, {tail(3), 5, false},
		// Words of no entry, though the bits that an entry has look due or busy.
		{idle(3, 1) | 1<<63, 5, false}, {idle(3, 1) | 1<<12, 5, false}, {busy(3, 1, 1) | 1<<48, 5, false}, {busy(3, 6, 1), 5, false}, {idle(8, 1), 5, false}, {large(0, 1), 5, false}, {large(5, 1), 5, false}, {entry(1, 3, 0, 1, 1), 5, false}, {entry(3, 1, 2, 0, 1), 5, false}, {entry(2, 1, 1, 0, 1), 5, false}, {math.MaxUint64, 5, false}, {1 << 63, 5, false},
	} {
		for i := range 3 {
			held := []page{{1, 2, 3}, {4, 5, 6}, {7, 8, 9}}
			held[i].entry = known.entry
			unSwept(t, held, i, known.cycle, known.blocked, func(s *story) { s.entries(i) })
		}
	}
}

// P9.1: a large object whose pages would reach beyond the heap is left as it is.
func TestSweepBeyondTheHeap(t *testing.T) {
	for i := range 5 {
		for n := 1; n <= 4; n++ {
			held := make([]page, 5)
			held[i] = page{large(n, 2), 1, 0}
			if i+n > 5 {
				unSwept(t, held, i, 3, false, func(s *story) { s.entries(i) })
				continue
			}
			a, plan := heap(t, 1, held...)
			m := newSweep(t, plan, 15, 3, i)
			finish(t, a, m)
			if !m.Swept() || !m.Empty() || m.Freed() != 1 {
				t.Error(n, "pages from", i, "on:", m.Swept(), m.Empty(), m.Freed())
			}
		}
	}
}

// P9.1: a Cas that fails ends the sweep, blocked, whatever was faster.
func TestSweepCasFails(t *testing.T) {
	due := idle(3, 2)
	for _, now := range []uint64{0, due + 1<<16, due | 1<<63, owned(3, 0, 2), busy(3, 15, 2), busy(3, 1, 2)} {
		unSwept(t, []page{{}, {due, 1, 0}}, 1, 3, true, func(s *story) {
			at := s.plan.Entry(1)
			s.entries(1).other(at, now).cas(at, due, busy(3, 15, 2))
		})
	}
	// One that comes back to the same word isn't noticed.
	a, plan := heap(t, 1, page{due, 1, 0})
	m := newSweep(t, plan, 2, 3, 0)
	tell(a, plan).entries(0).other(plan.Entry(0), 0).other(plan.Entry(0), due).cas(plan.Entry(0), due, busy(3, 2, 2)).load(plan.Mark(0)).load(plan.Alloc(0)).store(plan.Alloc(0), 0).store(plan.Mark(0), 0).store(plan.Entry(0), 0).follow(t, a, m)
}

// wordsOf: words that are bits of a page.
func wordsOf(random *seed) []uint64 {
	l := []uint64{0, 1, 2, 1 << 63, math.MaxUint64, math.MaxUint64 - 1, 0x5555555555555555, 1 | 1<<32}
	for range 4 {
		l = append(l, random.next(), random.next()&random.next()&random.next())
	}
	return l
}

// P9.1, P9.3: a page of a class: what is marked stays, all else is freed, and no mark is left; for each worker.
func TestSweepSmall(t *testing.T) {
	random := seed(88172645463325252)
	for _, alloc := range wordsOf(&random) {
		for _, mark := range wordsOf(&random) {
			class, i, was := random.below(8), random.below(3), pick(&random, 0, 3, api.MaxCycle-1)
			cycle, by := was+1+random.below(2)*random.below(api.MaxCycle-was), pick(&random, 0, 1, 2, 3, 4, 5, 15)
			held := []page{{idle(1, 0), 1, 2}, {idle(2, 0), 3, 4}, {large(1, 0), 5, 6}}
			held[i] = page{idle(class, was), alloc, mark}
			a, plan := heap(t, 1, held...)
			m := newSweep(t, plan, by, cycle, i)
			last := uint64(0)
			if alloc&mark != 0 {
				last = idle(class, cycle)
			}
			tell(a, plan).swept(i, idle(class, was), busy(class, by, was), alloc&mark, last).follow(t, a, m)
			if !m.Swept() || m.Blocked() || m.Empty() != (alloc&mark == 0) || m.Freed() != bits.OnesCount64(alloc&^mark) {
				t.Errorf("%x, %x: %v, %v, %v, %d", alloc, mark, m.Swept(), m.Blocked(), m.Empty(), m.Freed())
			}
		}
	}
}

// P9.1, P9.3: the pages of a large object: only bit 0 of the first page counts, the first page's entry is freed last, and whatever the entries of the others are.
func TestSweepLarge(t *testing.T) {
	random := seed(2463534242)
	for n := 1; n <= 4; n++ {
		for first := range 3 {
			for _, alloc := range wordsOf(&random) {
				for _, mark := range wordsOf(&random) {
					sweepLarge(t, n, first, alloc, mark, pick(&random, 0, 5, 15))
				}
			}
		}
	}
}

func sweepLarge(t *testing.T, n, first int, alloc, mark uint64, by int) {
	t.Helper()
	held := make([]page, 6)
	for i := range held {
		held[i] = page{idle(1, 0), 3, 5}
	}
	for k := 1; k < n; k++ {
		held[first+k] = page{tail(k), 6, 7}
	}
	if n == 3 {
		held[first+1].entry = owned(3, 1, 2)
	}
	held[first] = page{large(n, 2), alloc, mark}
	a, plan := heap(t, 1, held...)
	m := newSweep(t, plan, by, 3, first)
	kept := alloc & mark & 1
	s := tell(a, plan).entries(first).cas(plan.Entry(first), large(n, 2), busyLarge(n, by, 2)).load(plan.Mark(first)).load(plan.Alloc(first)).store(plan.Alloc(first), kept).store(plan.Mark(first), 0)
	if kept == 0 {
		for k := n - 1; k > 0; k-- {
			s.store(plan.Entry(first+k), 0)
		}
		s.store(plan.Entry(first), 0)
	} else {
		s.store(plan.Entry(first), large(n, 3))
	}
	s.follow(t, a, m)
	if !m.Swept() || m.Blocked() || m.Empty() != (kept == 0) || m.Freed() != bits.OnesCount64(alloc&^kept) {
		t.Errorf("%d pages, %x, %x: %v, %v, %v, %d", n, alloc, mark, m.Swept(), m.Blocked(), m.Empty(), m.Freed())
	}
}

// P9.3: a sweep goes by the bits that it loaded; what is freed by it is counted by them.
func TestSweepLoadsOnce(t *testing.T) {
	a, plan := heap(t, 1, page{idle(0, 0), 0xF, 0x3})
	m := newSweep(t, plan, 15, 1, 0)
	entry, alloc, mark := plan.Entry(0), plan.Alloc(0), plan.Mark(0)
	tell(a, plan).load(entry).cas(entry, idle(0, 0), busy(0, 15, 0)).load(mark).other(mark, 0xC).load(alloc).other(alloc, 0xF0).store(alloc, 3).store(mark, 0).other(alloc, 0).store(entry, idle(0, 1)).follow(t, a, m)
	if !m.Swept() || m.Empty() || m.Freed() != 2 {
		t.Error(m.Swept(), m.Empty(), m.Freed())
	}
}
