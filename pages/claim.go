package pages

import (
	"windrow/api"
	"windrow/arena"
	"windrow/header"
	"windrow/layout"
	"windrow/sizes"
)

// round is how a claim goes through the pages.
type round int

const (
	seekRoom  round = iota // pages of the class
	seekFree               // pages that are free
	seekEmpty              // pages that a sweep makes free
	seekNone               // no page is left
)

// Claim is a machine that gets a page of a class, with a cell that is free, for a thread.
type Claim struct {
	plan  layout.Plan
	t     int
	cycle int
	class int
	round round
	page  int
	next  action
	seen  uint64 // the word of the page's entry
	alloc uint64
	sweep *Sweep
	got   bool
}

// NewClaim: a machine that gets a page of a class for a thread, in a cycle.
func NewClaim(plan layout.Plan, t, cycle, class int) (*Claim, api.Errno) {
	if !hasThread(plan, t) || !isCycle(cycle) || !within(class, 0, sizes.Classes-1) {
		return nil, api.ErrArg
	}
	return &Claim{plan: plan, t: t, cycle: cycle, class: class, next: loadEntry}, api.OK
}

// Step makes the next access; is it over?
func (c *Claim) Step(p *arena.Port) bool {
	if c.Over() || !p.Open() {
		return c.Over()
	}
	entry := c.plan.Entry(c.page)
	switch c.next {
	case loadEntry:
		c.examine(p.Load(entry))
	case takeSeen:
		c.take(p, c.seen, loadAlloc)
	case takeFree:
		c.take(p, 0, clearAlloc)
	case loadAlloc:
		c.measure(p.Load(c.plan.Alloc(c.page)))
	case storeEntry:
		given, _ := c.obtained().Given(c.cycle)
		p.Store(entry, wordOf(given))
		c.pass()
	case sweepPage:
		if c.sweep.Step(p) {
			c.look()
		}
	case clearAlloc:
		p.Store(c.plan.Alloc(c.page), 0)
		c.next = clearMark
	case clearMark:
		p.Store(c.plan.Mark(c.page), 0)
		c.got, c.next = true, finished
	}
	return c.Over()
}

// obtained: the entry of a page that the thread has.
func (c *Claim) obtained() header.Entry {
	return header.Entry{Kind: header.Small, Class: c.class, State: header.Owned, Owner: c.t, Cycle: c.cycle}
}

// visit begins with a page, as this round does.
func (c *Claim) visit() {
	switch c.round {
	case seekRoom, seekFree:
		c.next = loadEntry
	case seekEmpty:
		c.begin()
	default:
		c.next = finished
	}
}

// begin sweeps the page.
func (c *Claim) begin() {
	// The claim was made with a thread and a cycle that a sweep takes, too.
	c.sweep, _ = NewSweep(c.plan, c.t, c.cycle, c.page)
	c.next = sweepPage
}

// pass leaves the page for the next one, and behind the last one the round for the next one.
func (c *Claim) pass() {
	c.page++
	if c.page == c.plan.Pages {
		c.page = 0
		c.round++
	}
	c.visit()
}

// examine goes on by what the page's entry says.
func (c *Claim) examine(seen uint64) {
	c.seen = seen
	if c.round == seekRoom {
		c.choose()
		return
	}
	if seen != 0 {
		c.pass()
		return
	}
	c.next = takeFree
}

// choose takes a page that is ready, sweeps one of the class that is due, and passes every other one.
func (c *Claim) choose() {
	entry, e := header.DecodeEntry(c.seen)
	switch {
	case e != api.OK:
		c.pass()
	case entry.Ready(c.class, c.cycle):
		c.next = takeSeen
	case entry.Due(c.cycle) && entry.Kind == header.Small && entry.Class == c.class:
		c.begin()
	default:
		c.pass()
	}
}

// take makes the page the thread's, unless its entry isn't what it was.
func (c *Claim) take(p *arena.Port, from uint64, then action) {
	if !p.Cas(c.plan.Entry(c.page), from, wordOf(c.obtained())) {
		c.pass()
		return
	}
	c.next = then
}

// measure ends with a page that has room; one that is full is given back.
func (c *Claim) measure(alloc uint64) {
	if sizes.Room(c.class, alloc) == 0 {
		c.next = storeEntry
		return
	}
	c.alloc, c.got, c.next = alloc, true, finished
}

// look goes on behind a sweep.
func (c *Claim) look() {
	switch {
	case c.round == seekRoom && c.sweep.Swept() && !c.sweep.Empty():
		c.visit()
	case c.round == seekEmpty && c.sweep.Empty():
		c.next = takeFree
	default:
		c.pass()
	}
}

// Over: is it over? Got: has it got a page? Page, Alloc: which, and which cells of it are allocated.
func (c *Claim) Over() bool { return c == nil || c.next == finished }

func (c *Claim) Got() bool { return c != nil && c.got }

func (c *Claim) Page() int {
	if !c.Got() {
		return 0
	}
	return c.page
}

func (c *Claim) Alloc() uint64 {
	if !c.Got() {
		return 0
	}
	return c.alloc
}
