package collect

import (
	"windrow/api"
	"windrow/arena"
	"windrow/layout"
	"windrow/pages"
)

// stepSweep sweeps all pages, and ends the cycle.
func (c *Collector) stepSweep(p *arena.Port) {
	switch c.next {
	case storeCycle:
		c.cycle++
		p.Store(layout.Cycle, uint64(c.cycle))
		c.sweepAll()
	case sweepPage:
		if c.sweep.Step(p) {
			c.swept()
		}
	case endCycle:
		c.cycles++
		p.Store(layout.Done, c.done())
		c.phase, c.next = Idle, loadRequest
	}
}

// sweepAll begins with the first page.
func (c *Collector) sweepAll() {
	c.blocked = false
	c.sweepFrom(0)
}

// sweepFrom sweeps a page.
func (c *Collector) sweepFrom(page int) {
	c.page, c.next = page, sweepPage
	// The plan has that page; and cycles enough for all steps that can be made.
	c.sweep, _ = pages.NewSweep(c.plan, api.CollectorID, c.cycle, page)
}

// swept goes on with the next page. Where somebody else was sweeping one, all are swept again, so that the cycle doesn't end before that is done.
func (c *Collector) swept() {
	c.freed += c.sweep.Freed()
	c.blocked = c.blocked || c.sweep.Blocked()
	switch {
	case c.page+1 < c.plan.Pages:
		c.sweepFrom(c.page + 1)
	case c.blocked:
		c.sweepAll()
	default:
		c.next = endCycle
	}
}
