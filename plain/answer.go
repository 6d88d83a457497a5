package plain

import (
	"windrow/api"
	"windrow/frames"
)

// waits: must a thread wait for another one's end?
func (m *Machine) waits(w frames.Want) bool {
	return w.Kind == frames.Await && m.has(w.Index) && running(m.threads[w.Index])
}

// answer does for thread i what its instruction needs from outside: the number that it gets, or the trap that stops it.
func (m *Machine) answer(i int, w frames.Want, memory bool) (n int64, trap int) {
	switch w.Kind {
	case frames.Fault:
		return 0, w.Trap
	case frames.Make:
		return m.create(w, memory)
	case frames.Read, frames.Write, frames.Change:
		return m.access(w)
	case frames.Length:
		return m.length(w)
	case frames.ReadRoot:
		return m.globals[w.Index], 0
	case frames.WriteRoot:
		m.globals[w.Index] = w.V.N
	case frames.Begin:
		return m.begin(w)
	case frames.Await:
		return m.await(w)
	case frames.Tell:
		return 0, m.tell(i, w.V.N)
	}
	return 0, 0
}

// create makes an object; the number is its name.
func (m *Machine) create(w frames.Want, memory bool) (int64, int) {
	if !memory {
		return 0, api.TrapMemory
	}
	name := int64(len(m.cells)) + 1
	m.cells = append(m.cells, api.Cell{Addr: name, Class: w.Class, Kind: w.Object, Words: make([]int64, w.Len)})
	return name, 0
}

// object: the one with a name.
func (m *Machine) object(name int64) api.Cell { return m.cells[name-1] }

// access reads, writes or changes a word of an object.
func (m *Machine) access(w frames.Want) (int64, int) {
	c := m.object(w.Ref)
	if c.Class != w.Class || c.Kind != w.Object {
		return 0, api.TrapClass
	}
	if w.Index < 0 || w.Index >= int64(len(c.Words)) {
		return 0, api.TrapBounds
	}
	word := &c.Words[w.Index]
	switch w.Kind {
	case frames.Read:
		return *word, 0
	case frames.Write:
		*word = w.V.N
	case frames.Change:
		if *word == w.Expect.N {
			*word = w.V.N
			return 1, 0
		}
	}
	return 0, 0
}

// length: how many words an array has.
func (m *Machine) length(w frames.Want) (int64, int) {
	c := m.object(w.Ref)
	if c.Kind == api.Fields {
		return 0, api.TrapClass
	}
	return int64(len(c.Words)), 0
}

// begin adds a thread; the number is its own.
func (m *Machine) begin(w frames.Want) (int64, int) {
	n := m.Count()
	if n >= m.most {
		return 0, api.TrapThreads
	}
	m.enter(w.Callee, w.Args)
	return int64(n), 0
}

// await: the result of a thread that isn't running any more.
func (m *Machine) await(w frames.Want) (int64, int) {
	if !m.has(w.Index) {
		return 0, api.TrapJoin
	}
	return m.threads[w.Index].Result(), 0
}

// tell puts a number out for thread i.
func (m *Machine) tell(i int, n int64) int {
	if len(m.outputs) >= api.MaxOutputs {
		return api.TrapOutputs
	}
	m.outputs = append(m.outputs, api.Output{Thread: i, N: n})
	return 0
}
