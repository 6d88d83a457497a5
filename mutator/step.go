package mutator

import (
	"windrow/api"
	"windrow/arena"
	"windrow/frames"
	"windrow/layout"
)

// state is what a thread does next.
type state int

// nothing comes first so that a thread that no call has made has nothing to do.
const (
	nothing      state = iota
	perform            // the next instruction, from its beginning on
	useWord            // of an object whose header it has seen
	makeObject         // for an instruction
	finishObject       // whatever is left to be done for an object that the instruction has made
	takeNumber         // for a new thread
	tellAck            // to the new thread
	tellStatus         // to the new thread
	seeStatus          // of the thread for whose end it waits
	park               // until that thread's end
	await              // that
	loadResult         // of that thread
	shadeRefs          // before it does what comes after
	givePages          // ahead of the response to a handshake
	respond            // to a handshake
	askCycle           // since there is no room
	readCycles         // of which it then waits for one or two more
	listen             // for a handshake, while it waits for memory
	help               // the collector
	seeCycles          // whether those are completed for which it waits
	askAgain           // for a cycle
	leavePages         // since it has ended
	leaveResult        // since it has ended
	leave              // for good
	gone
)

// moved: something was done, but no instruction took effect.
func moved() Turn { return Turn{Moved: true} }

// Step makes a step: one access at most.
func (m *Mutator) Step(p *arena.Port) Turn {
	// An access without a grant would be a fault, and lost on the thread.
	if m == nil || !m.started || !p.Open() {
		return Turn{}
	}
	switch m.next {
	case nothing, gone:
		return Turn{}
	case perform:
		return m.perform(p)
	case useWord:
		return m.useWord(p)
	case makeObject:
		return m.makeObject(p)
	case takeNumber:
		return m.takeNumber(p)
	case await:
		return m.await(p)
	case loadResult:
		return m.done(int64(p.Load(m.plan.Result(m.other()))))
	case listen:
		return m.listen(p)
	case respond:
		return m.respond(p)
	}
	m.proceed(p)
	return moved()
}

// proceed makes a step with which no instruction takes effect.
func (m *Mutator) proceed(p *arena.Port) {
	switch m.next {
	case finishObject:
		if m.alloc.Step(p) {
			m.next = perform
		}
	case tellAck:
		p.Store(m.plan.Ack(m.child()), m.seen)
		m.next = tellStatus
	case tellStatus:
		p.Store(m.plan.Status(m.child()), Runs)
		m.next = perform
		m.host.Raise(m.child())
	case seeStatus:
		m.seeStatus(p)
	case park:
		p.Store(m.plan.Status(m.t), Parked)
		m.next = await
	case shadeRefs:
		m.shadeRefs(p)
	case givePages:
		if m.retire.Step(p) {
			m.next = respond
		}
	case askCycle:
		p.Store(layout.Request, 1)
		m.next = readCycles
	case readCycles:
		m.readCycles(p)
	case help:
		m.next = seeCycles
		m.host.Collect()
	case seeCycles:
		m.seeCycles(p)
	case askAgain:
		p.Store(layout.Request, 1)
		m.next = listen
	case leavePages, leaveResult, leave:
		m.stepEnd(p)
	}
}

// perform begins with the next instruction, which takes effect at once if one access is enough for it, or none is needed.
func (m *Mutator) perform(p *arena.Port) Turn {
	w, e := m.frames.Want()
	if e != api.OK {
		// Frames that aren't running any more want nothing; the thread would have left.
		return Turn{}
	}
	m.want = w
	switch w.Kind {
	case frames.Stop:
		return m.listen(p)
	case frames.Gather:
		p.Store(layout.Request, 1)
	case frames.Tell:
		if !m.host.Tell(m.t, w.V.N) {
			return m.halt(api.TrapOutputs)
		}
	case frames.ReadRoot:
		return m.done(int64(p.Load(m.plan.Global(int(w.Index)))))
	case frames.WriteRoot:
		return m.overwrote(p.Swap(m.plan.Global(int(w.Index)), uint64(w.V.N)), 0)
	case frames.Read, frames.Write, frames.Change, frames.Length:
		return m.seeHead(p)
	case frames.Make:
		m.beginObject()
		return m.makeObject(p)
	case frames.Begin:
		return m.seeCount(p)
	case frames.Await:
		return m.seeOther(p)
	}
	return m.done(0)
}

// done: the instruction takes effect; what it needed is n, or nothing.
func (m *Mutator) done(n int64) Turn {
	m.frames.Done(api.Value{Type: m.want.Type, N: n})
	return m.effect()
}

// halt: the instruction takes effect by a trap.
func (m *Mutator) halt(trap int) Turn {
	m.frames.Halt(trap)
	return m.effect()
}

// effect goes on behind an instruction that has taken effect.
func (m *Mutator) effect() Turn {
	m.last, m.next = false, perform
	if m.frames.Status() != api.Running {
		m.beginEnd()
	}
	w := m.want
	event := api.Event{Thread: m.t, Fn: w.Fn, Pc: w.Pc, Op: w.Op, Trap: m.frames.Trap()}
	return Turn{Moved: true, Done: true, Event: event}
}

// overwrote: the instruction takes effect, with n as what it needed, and has overwritten a reference.
func (m *Mutator) overwrote(old uint64, n int64) Turn {
	turn := m.done(n)
	if m.barrier {
		m.shadeAll([]int64{int64(old)}, perform)
	}
	return turn
}
