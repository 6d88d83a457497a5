package pages

import (
	"windrow/api"
	"windrow/arena"
	"windrow/header"
	"windrow/layout"
	"windrow/word"
)

// Sweep is a machine that frees what isn't marked in a page.
type Sweep struct {
	plan    layout.Plan
	who     int
	cycle   int
	page    int
	next    action
	seen    uint64       // the word of the page's entry ahead
	entry   header.Entry // what that says
	mark    uint64
	alloc   uint64
	kept    uint64 // what stays allocated
	tails   int    // how many pages behind the first one are still to be freed
	swept   bool
	blocked bool
}

// NewSweep: a machine that sweeps a page in a cycle.
func NewSweep(plan layout.Plan, who, cycle, page int) (*Sweep, api.Errno) {
	if !hasPage(plan, page) || !isWorker(who) || !isCycle(cycle) {
		return nil, api.ErrArg
	}
	return &Sweep{plan: plan, who: who, cycle: cycle, page: page, next: loadEntry}, api.OK
}

// Step makes the next access; is it over?
func (s *Sweep) Step(p *arena.Port) bool {
	if s.Over() || !p.Open() {
		return s.Over()
	}
	switch s.next {
	case loadEntry:
		s.examine(p.Load(s.plan.Entry(s.page)))
	case takeSeen:
		s.take(p)
	case loadMark:
		s.mark = p.Load(s.plan.Mark(s.page))
		s.next = loadAlloc
	case loadAlloc:
		s.compare(p.Load(s.plan.Alloc(s.page)))
	case storeAlloc:
		p.Store(s.plan.Alloc(s.page), s.kept)
		s.next = clearMark
	case clearMark:
		p.Store(s.plan.Mark(s.page), 0)
		s.release()
	case freeTail:
		p.Store(s.plan.Entry(s.page+s.tails), 0)
		s.tails--
		s.release()
	case storeEntry:
		p.Store(s.plan.Entry(s.page), s.last())
		s.swept, s.next = true, finished
	}
	return s.Over()
}

// examine goes on if the page is due in this cycle.
func (s *Sweep) examine(seen uint64) {
	s.next = finished
	entry, e := header.DecodeEntry(seen)
	if e != api.OK {
		return
	}
	s.blocked = entry.State == header.Busy && entry.Cycle < s.cycle
	if !entry.Due(s.cycle) || s.beyond(entry) {
		return
	}
	s.seen, s.entry, s.next = seen, entry, takeSeen
}

// beyond: would a large object's pages reach beyond the heap?
func (s *Sweep) beyond(entry header.Entry) bool {
	return entry.Kind == header.Large && s.page+entry.Class > s.plan.Pages
}

// take goes on if nobody else took the page since its entry was loaded.
func (s *Sweep) take(p *arena.Port) {
	// An entry that is due may be taken by any worker.
	busy, _ := s.entry.Taken(header.Busy, s.who)
	if !p.Cas(s.plan.Entry(s.page), s.seen, wordOf(busy)) {
		s.blocked, s.next = true, finished
		return
	}
	s.next = loadMark
}

// compare finds out what stays allocated, and which pages become free.
func (s *Sweep) compare(alloc uint64) {
	s.alloc, s.kept = alloc, alloc&s.mark
	if s.entry.Kind == header.Large {
		s.kept &= 1
		s.tails = s.entry.Class - 1
	}
	s.next = storeAlloc
}

// release goes on to the entries; the first page's comes last, since it holds the others.
func (s *Sweep) release() {
	s.next = storeEntry
	if s.kept == 0 && s.tails > 0 {
		s.next = freeTail
	}
}

// last: the word of the page's entry behind the sweep.
func (s *Sweep) last() uint64 {
	if s.kept == 0 {
		return 0
	}
	given, _ := s.entry.Given(s.cycle)
	return wordOf(given)
}

// Over: is it over? Swept: did it sweep the page? Freed: how many objects it freed; Empty: is the page free then?
func (s *Sweep) Over() bool { return s == nil || s.next == finished }

func (s *Sweep) Swept() bool { return s != nil && s.swept }

func (s *Sweep) Freed() int {
	if !s.Swept() {
		return 0
	}
	return word.Ones(s.alloc &^ s.kept)
}

func (s *Sweep) Empty() bool { return s.Swept() && s.kept == 0 }

// Blocked: did it find the page with somebody else who sweeps it?
func (s *Sweep) Blocked() bool { return s != nil && s.blocked }
