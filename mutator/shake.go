package mutator

import (
	"windrow/arena"
	"windrow/layout"
	"windrow/shade"
)

// listen looks for a handshake to which it hasn't responded.
func (m *Mutator) listen(p *arena.Port) Turn {
	m.epoch = p.Load(layout.Epoch)
	if m.epoch == m.seen {
		return m.heard()
	}
	switch m.epoch % kinds {
	case Scan:
		m.shadeAll(m.Roots(), respond)
	case Off:
		m.retire, m.next = m.Retire(), givePages
		if m.retire.Over() {
			m.next = respond
		}
	default:
		m.next = respond
	}
	return moved()
}

// respond: what the handshake asks of the arena is done.
func (m *Mutator) respond(p *arena.Port) Turn {
	m.Serve(m.epoch)
	p.Store(m.plan.Ack(m.t), m.epoch)
	return m.heard()
}

// heard goes on behind a handshake: where the thread listened at a poll, that takes effect.
func (m *Mutator) heard() Turn {
	if !m.hungry {
		return m.done(0)
	}
	m.next = help
	return moved()
}

// shadeAll has references shaded, and then does what comes after.
func (m *Mutator) shadeAll(refs []int64, after state) {
	m.refs, m.after = refs, after
	m.shadeNext()
}

// shadeNext begins with the first reference that is left and refers to something.
func (m *Mutator) shadeNext() {
	m.next = m.after
	for len(m.refs) > 0 {
		// For what is no reference of the heap there is no machine, as if it were over.
		m.shade, _ = shade.NewShade(m.plan, m.t, uint64(m.refs[0]))
		if !m.shade.Over() {
			m.next = shadeRefs
			return
		}
		m.refs = m.refs[1:]
	}
}

// shadeRefs goes on with the first reference that is left.
func (m *Mutator) shadeRefs(p *arena.Port) {
	if m.shade.Step(p) {
		m.refs = m.refs[1:]
		m.shadeNext()
	}
}

// Done holds twice the number of completed cycles, and one more while a cycle goes on.

// readCycles finds out how many cycles must be completed: the one that goes on may have begun too early.
func (m *Mutator) readCycles(p *arena.Port) {
	done := p.Load(layout.Done)
	m.goal = done/2 + done%2 + 1
	m.next = listen
}

// seeCycles begins the second attempt if these cycles are completed.
func (m *Mutator) seeCycles(p *arena.Port) {
	done := p.Load(layout.Done)
	switch {
	case done/2 >= m.goal:
		m.hungry, m.last = false, true
		m.beginObject()
	case done%2 == 0:
		m.next = askAgain
	default:
		m.next = listen
	}
}
