package mutator

import (
	"windrow/api"
	"windrow/arena"
	"windrow/frames"
	"windrow/header"
	"windrow/objects"
	"windrow/tlab"
)

// seeHead loads the header of the object that the instruction uses.
func (m *Mutator) seeHead(p *arena.Port) Turn {
	// What is no header is that of no object: of no class and no kind.
	h, _ := header.DecodeHead(p.Load(int(m.want.Ref)))
	if m.want.Kind == frames.Length {
		return m.length(h)
	}
	switch w := m.want; {
	case h.Kind != w.Object || h.Class != w.Class:
		return m.halt(api.TrapClass)
	case w.Index < 0 || w.Index >= int64(h.Len):
		return m.halt(api.TrapBounds)
	}
	m.next = useWord
	return moved()
}

// length tells how many words an array has.
func (m *Mutator) length(h header.Head) Turn {
	if h.Kind != api.Ints && h.Kind != api.Refs {
		return m.halt(api.TrapClass)
	}
	return m.done(int64(h.Len))
}

// useWord loads, stores, swaps or exchanges the word of the object that the instruction uses.
func (m *Mutator) useWord(p *arena.Port) Turn {
	w := m.want
	at, v := objects.Field(int(w.Ref), int(w.Index)), uint64(w.V.N)
	switch {
	case w.Kind == frames.Read:
		return m.done(int64(p.Load(at)))
	case w.Kind == frames.Change:
		return m.exchange(p, at)
	case w.V.Type == api.Ref:
		return m.overwrote(p.Swap(at, v), 0)
	}
	p.Store(at, v)
	return m.done(0)
}

// exchange sets a word if it is what the instruction expects.
func (m *Mutator) exchange(p *arena.Port, at int) Turn {
	w := m.want
	switch {
	case !p.Cas(at, uint64(w.Expect.N), uint64(w.V.N)):
		return m.done(0)
	case w.V.Type == api.Ref:
		return m.overwrote(uint64(w.Expect.N), 1)
	}
	return m.done(1)
}

// beginObject begins to make the object that the instruction needs.
func (m *Mutator) beginObject() {
	h := header.Head{Class: m.want.Class, Kind: m.want.Object, Len: m.want.Len}
	// The instruction is one of a checked program, so that its header is valid.
	m.alloc, _ = tlab.NewAlloc(m.buffers, h)
	m.next = makeObject
}

// makeObject: the instruction takes effect as soon as the object has its address; the frames hold it from then on.
func (m *Mutator) makeObject(p *arena.Port) Turn {
	m.alloc.Step(p)
	if m.alloc.None() {
		return m.lack()
	}
	at := int64(m.alloc.Addr())
	if at == 0 {
		return moved()
	}
	turn := m.done(at)
	turn.Event.Addr = at
	if !m.alloc.Over() {
		m.next = finishObject
	}
	return turn
}

// lack: there is no room for the object; the first time the thread waits for cycles.
func (m *Mutator) lack() Turn {
	if m.last {
		return m.halt(api.TrapMemory)
	}
	m.hungry, m.next = true, askCycle
	return moved()
}
