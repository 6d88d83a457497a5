package collect

import (
	"slices"

	"windrow/arena"
	"windrow/layout"
	"windrow/mutator"
)

// kinds is how many numbers a handshake's kind may have: the rest of Epoch counts handshakes.
const kinds = 8

// epoch: what Epoch holds during the handshake that goes on.
func (c *Collector) epoch() uint64 { return kinds*c.number + c.kind }

// shake begins a phase with a handshake.
func (c *Collector) shake(phase int, kind uint64) {
	c.phase, c.kind, c.next = phase, kind, storeEpoch
}

// stepShake waits until each thread has responded.
func (c *Collector) stepShake(p *arena.Port) {
	switch c.next {
	case storeEpoch:
		c.number++
		p.Store(layout.Epoch, c.epoch())
		c.follow(0)
	case loadStatus:
		c.see(p.Load(c.plan.Status(c.t)))
	case loadCount:
		c.skip(p.Load(layout.Count))
	case loadAck:
		c.next = loadStatus
		if p.Load(c.plan.Ack(c.t)) == c.epoch() {
			c.follow(c.t + 1)
		}
	}
}

// follow goes on with a thread; behind the last one the handshake is over.
func (c *Collector) follow(t int) {
	c.t, c.next = t, loadStatus
	if t == c.plan.Threads {
		c.shaken()
	}
}

// see goes on by a thread's Status. In any other state than these it is looked at again.
func (c *Collector) see(status uint64) {
	switch status {
	case mutator.Absent:
		c.next = loadCount
	case mutator.Runs:
		c.next = loadAck
	case mutator.Parked:
		c.next = takeThread
	case mutator.Gone:
		c.follow(c.t + 1)
	}
}

// skip leaves a thread that isn't there yet. It begins with what the one stands at that begins it, which was followed before; but if a later one is there already, that may have been begun by another thread, before that one responded.
func (c *Collector) skip(count uint64) {
	if uint64(c.t)+1 < count {
		c.follow(c.t + 1)
		return
	}
	c.shaken()
}

// shaken: all threads have responded.
func (c *Collector) shaken() {
	switch c.kind {
	case mutator.Arm:
		c.shake(Scanning, mutator.Scan)
	case mutator.Scan:
		c.phase, c.global, c.next = Rooting, 0, loadGlobal
	case mutator.Blend:
		c.t, c.page = 0, c.plan.Pages
		c.found()
		c.seek()
	case mutator.Check:
		c.checked = true
		c.seekRing(0)
	case mutator.Quiet:
		c.shake(Closing, mutator.Off)
	case mutator.Off:
		c.phase, c.next = Sweeping, storeCycle
	}
}

// stepServe responds for a thread that waits for another one's end.
func (c *Collector) stepServe(p *arena.Port) {
	switch c.next {
	case takeThread:
		c.next = loadStatus
		if p.Cas(c.plan.Status(c.t), mutator.Parked, mutator.Served) {
			c.next = loadTaken
		}
	case loadTaken:
		// What the thread did for itself before it waited mustn't be done twice.
		c.next = leaveThread
		if p.Load(c.plan.Ack(c.t)) != c.epoch() {
			c.serve()
		}
	case takePages:
		if c.retire.Step(p) {
			c.next = storeAck
		}
	case storeAck:
		p.Store(c.plan.Ack(c.t), c.epoch())
		if c.subject != nil {
			c.subject.Serve(c.epoch())
		}
		c.subject, c.next = nil, leaveThread
	case leaveThread:
		p.Store(c.plan.Status(c.t), mutator.Parked)
		c.follow(c.t + 1)
	}
}

// serve begins with what the handshake asks of the arena.
func (c *Collector) serve() {
	c.subject, c.next = c.find(c.t), storeAck
	if c.subject == nil {
		return
	}
	switch c.kind {
	case mutator.Scan:
		c.roots = slices.DeleteFunc(slices.Clone(c.subject.Roots()), c.strange)
		c.seek()
	case mutator.Off:
		c.retire = c.subject.Retire()
		if !c.retire.Over() {
			c.next = takePages
		}
	}
}
