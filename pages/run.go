package pages

import (
	"windrow/api"
	"windrow/arena"
	"windrow/header"
	"windrow/layout"
)

// Run is a machine that gets pages that stand one behind the other, for one object.
type Run struct {
	plan  layout.Plan
	t     int
	cycle int
	pages int
	first int // the page from which it counts, or which it sweeps
	n     int // how many from there on were free, or are obtained
	back  int // where it counts from when all is taken back
	again bool
	next  action
	sweep *Sweep
	got   bool
}

// NewRun: a machine that gets so many pages for a thread, in a cycle.
func NewRun(plan layout.Plan, t, cycle, pages int) (*Run, api.Errno) {
	if !hasThread(plan, t) || !isCycle(cycle) || !within(pages, 1, api.MaxRun) {
		return nil, api.ErrArg
	}
	r := &Run{plan: plan, t: t, cycle: cycle, pages: pages}
	if pages <= plan.Pages {
		r.next = loadEntry
	}
	return r, api.OK
}

// Step makes the next access; is it over?
func (r *Run) Step(p *arena.Port) bool {
	if r.Over() || !p.Open() {
		return r.Over()
	}
	switch r.next {
	case loadEntry:
		r.count(p.Load(r.plan.Entry(r.first + r.n)))
	case takeFree:
		r.take(p)
	case takeBack:
		r.n--
		p.Store(r.plan.Entry(r.first+r.n), 0)
		if r.n == 0 {
			r.restart(r.back)
		}
	case sweepPage:
		if r.sweep.Step(p) {
			r.sweepFrom(r.first + 1)
		}
	case clearAlloc:
		p.Store(r.plan.Alloc(r.first), 0)
		r.next = clearMark
	case clearMark:
		p.Store(r.plan.Mark(r.first), 0)
		r.got, r.next = true, finished
	}
	return r.Over()
}

// count goes on behind the entry of one more page.
func (r *Run) count(seen uint64) {
	r.n++
	switch {
	case seen != 0:
		r.restart(r.first + r.n)
	case r.n == r.pages:
		r.n, r.next = 0, takeFree
	case r.first+r.n == r.plan.Pages:
		r.exhaust()
	}
}

// restart counts from a page on, if there is one left.
func (r *Run) restart(page int) {
	r.first, r.n, r.next = page, 0, loadEntry
	if page >= r.plan.Pages {
		r.exhaust()
	}
}

// exhaust sweeps all pages the first time, and ends without pages the second time.
func (r *Run) exhaust() {
	if r.again {
		r.next = finished
		return
	}
	r.again = true
	r.sweepFrom(0)
}

// sweepFrom sweeps a page, and behind the last one counts once more.
func (r *Run) sweepFrom(page int) {
	if page == r.plan.Pages {
		r.restart(0)
		return
	}
	r.first, r.next = page, sweepPage
	// The run was made with a thread and a cycle that a sweep takes, too.
	r.sweep, _ = NewSweep(r.plan, r.t, r.cycle, page)
}

// part: the entry of the n-th page, while the object isn't made.
func (r *Run) part() header.Entry {
	if r.n == 0 {
		return header.Entry{Kind: header.Large, Class: r.pages, State: header.Busy, Owner: r.t, Cycle: r.cycle}
	}
	return header.Entry{Kind: header.Tail, Class: r.n}
}

// take makes the next page the thread's; if somebody else was faster, all are to be given back.
func (r *Run) take(p *arena.Port) {
	at := r.first + r.n
	if p.Cas(r.plan.Entry(at), 0, wordOf(r.part())) {
		r.n++
		if r.n == r.pages {
			r.next = clearAlloc
		}
		return
	}
	if r.n == 0 {
		r.restart(at + 1)
		return
	}
	r.back, r.next = at+1, takeBack
}

// Over: is it over? Got: has it got the pages? Page: the first one.
func (r *Run) Over() bool { return r == nil || r.next == finished }

func (r *Run) Got() bool { return r != nil && r.got }

func (r *Run) Page() int {
	if !r.Got() {
		return 0
	}
	return r.first
}

// Publish is the entry that the first page has when the object is made.
func (r *Run) Publish() (header.Entry, api.Errno) {
	if !r.Got() {
		return header.Entry{}, api.ErrState
	}
	return header.Entry{Kind: header.Large, Class: r.pages, State: header.Idle, Cycle: r.cycle}, api.OK
}
