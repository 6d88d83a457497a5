package world

import (
	"slices"

	"windrow/api"
	"windrow/layout"
	"windrow/objects"
	"windrow/ring"
	"windrow/shade"
)

// View is a world, to be looked at.
type View struct {
	Phase   int
	Cycle   int
	Cycles  int
	Threads []api.Thread
	Globals []int64
	Roots   []int64    // the globals, then the threads' references, by the maps
	Flight  []int64    // what is on its way: in the threads' and the collector's hands, in rings, on its stack
	Cells   []api.Cell // all objects that are allocated
	Marked  []int64    // those that are marked
}

// Count: how many threads. Picks: how many were taken. Accesses, Faults: the arena's.
func (w *World) Count() int {
	if w == nil {
		return 0
	}
	return len(w.threads)
}

func (w *World) Picks() int {
	if w == nil {
		return 0
	}
	return w.picks
}

func (w *World) Accesses() int {
	if w == nil {
		return 0
	}
	return w.arena.Count()
}

func (w *World) Faults() int {
	if w == nil {
		return 0
	}
	return w.arena.Faults()
}

// Outputs: what was put out. Events: the instructions that took effect.
func (w *World) Outputs() []api.Output {
	if w == nil {
		return nil
	}
	return slices.Clone(w.outputs)
}

func (w *World) Events() []api.Event {
	if w == nil {
		return nil
	}
	return slices.Clone(w.events)
}

// Image: what all cells of the arena hold. Log: the accesses that were kept.
func (w *World) Image() []uint64 {
	if w == nil {
		return nil
	}
	return w.arena.Image()
}

func (w *World) Log() []api.Access {
	if w == nil {
		return nil
	}
	var l []api.Access
	for _, made := range w.arena.Log() {
		l = append(l, made)
	}
	return l
}

// Plan: how the arena is laid out.
func (w *World) Plan() layout.Plan {
	if w == nil {
		return layout.Plan{}
	}
	return w.plan
}

// Freed: how many objects the collector's sweeps have freed.
func (w *World) Freed() int {
	if w == nil {
		return 0
	}
	return w.collector.Freed()
}

// View: the world, to be looked at.
func (w *World) View() (View, api.Errno) {
	if w == nil {
		return View{}, api.ErrNil
	}
	cells, e := objects.All(w.arena, w.plan, w.program.Table())
	if e != api.OK {
		return View{}, e
	}
	flight, e := w.flight()
	if e != api.OK {
		return View{}, e
	}
	v := View{Phase: w.collector.Phase(), Cycle: w.collector.Cycle(), Cycles: w.collector.Cycles(), Globals: w.globals(), Flight: flight, Cells: cells}
	v.Roots = slices.Clone(v.Globals)
	for _, m := range w.threads {
		v.Threads = append(v.Threads, m.View())
		v.Roots = append(v.Roots, m.Roots()...)
	}
	for _, c := range cells {
		if shade.Marked(w.arena, w.plan, uint64(c.Addr)) {
			v.Marked = append(v.Marked, c.Addr)
		}
	}
	return v, api.OK
}

// globals: the global references.
func (w *World) globals() []int64 {
	var l []int64
	for i := range api.Globals {
		ref, _ := w.arena.Peek(w.plan.Global(i))
		l = append(l, int64(ref))
	}
	return l
}

// flight: what the threads and the collector have in hand, what waits in rings, and what is on the collector's stack.
func (w *World) flight() ([]int64, api.Errno) {
	var l []int64
	for _, m := range w.threads {
		l = append(l, m.Flight()...)
	}
	l = append(l, w.collector.Flight()...)
	// A thread that isn't there any more, or not yet, has a ring all the same.
	for t := range w.plan.Threads {
		words, e := ring.Waiting(w.arena, w.plan, t)
		if e != api.OK {
			return nil, e
		}
		for _, word := range words {
			l = append(l, int64(word))
		}
	}
	return append(l, w.collector.Stack()...), api.OK
}
