package mutator

import (
	"windrow/api"
	"windrow/arena"
	"windrow/layout"
)

// child: the number of the thread that the instruction begins.
func (m *Mutator) child() int { return int(m.count) }

// other: the number of the thread for whose end the instruction waits.
func (m *Mutator) other() int { return int(m.want.Index) }

// seeCount finds out whether there may be one thread more.
func (m *Mutator) seeCount(p *arena.Port) Turn {
	m.count = p.Load(layout.Count)
	if m.count >= uint64(m.plan.Threads) {
		return m.halt(api.TrapThreads)
	}
	m.next = takeNumber
	return moved()
}

// takeNumber: the new thread is there, unless another thread was faster: then the instruction begins anew.
func (m *Mutator) takeNumber(p *arena.Port) Turn {
	if !p.Cas(layout.Count, m.count, m.count+1) {
		m.next = perform
		return moved()
	}
	m.host.Begin(m.child(), m.want.Callee, m.want.Args, m)
	turn := m.done(int64(m.count))
	m.next = tellAck
	return turn
}

// seeOther finds out whether there is the thread for whose end the instruction waits.
func (m *Mutator) seeOther(p *arena.Port) Turn {
	count := p.Load(layout.Count)
	// A count may be anything; a thread that the plan hasn't has no cells.
	if i := m.want.Index; i < 0 || uint64(i) >= count || m.plan.Status(int(i)) < 0 {
		return m.halt(api.TrapJoin)
	}
	m.next = seeStatus
	return moved()
}

// seeStatus finds out whether that thread has ended.
func (m *Mutator) seeStatus(p *arena.Port) {
	m.next = park
	if p.Load(m.plan.Status(m.other())) == Gone {
		m.next = loadResult
	}
}

// await does nothing until that thread has ended, nor while the collector serves this one.
func (m *Mutator) await(p *arena.Port) Turn {
	if !m.host.Gone(m.other()) {
		return Turn{}
	}
	if p.Cas(m.plan.Status(m.t), Parked, Runs) {
		m.next = loadResult
	}
	return moved()
}

// beginEnd: the thread has ended or was stopped, and gives back what it has.
func (m *Mutator) beginEnd() {
	m.retire, m.next = m.Retire(), leavePages
	if m.retire.Over() {
		m.next = leaveResult
	}
}

// stepEnd gives back its pages, then tells its result, and then that it is gone.
func (m *Mutator) stepEnd(p *arena.Port) {
	switch m.next {
	case leavePages:
		if m.retire.Step(p) {
			m.next = leaveResult
		}
	case leaveResult:
		p.Store(m.plan.Result(m.t), uint64(m.frames.Result()))
		m.next = leave
	case leave:
		p.Store(m.plan.Status(m.t), Gone)
		m.next = gone
	}
}
