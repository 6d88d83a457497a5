package world

import (
	"windrow/api"
	"windrow/collect"
	"windrow/mutator"
)

// host is a world as its threads see it. It is a type of its own so that only they can call what is theirs.
type host struct{ w *World }

// Begin: a thread more is there; it may not go on yet.
func (h host) Begin(n, fn int, args []api.Value, by *mutator.Mutator) {
	// The program was looked over, so that the function and its arguments are right; and the thread that calls has found room for one more.
	h.w.enter(n, fn, args, by)
}

// Raise: a thread may go on.
func (h host) Raise(n int) { h.w.thread(n).Start() }

// Tell: a number is put out; false: there is no room.
func (h host) Tell(t int, n int64) bool {
	if len(h.w.outputs) >= api.MaxOutputs {
		return false
	}
	h.w.outputs = append(h.w.outputs, api.Output{Thread: t, N: n})
	return true
}

// Gone: has a thread ended, and told so?
func (h host) Gone(t int) bool { return h.w.thread(t).Gone() }

// Collect: the collector makes a step, in the pick of the thread that calls.
func (h host) Collect() { h.w.gather() }

// find: a thread, as the collector sees it.
func (w *World) find(t int) collect.Subject {
	if m := w.thread(t); m != nil {
		return m
	}
	// A nil thread would make an interface that isn't nil.
	return nil
}
