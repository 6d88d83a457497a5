package tlab

import (
	"windrow/arena"
	"windrow/pages"
)

// Retire is a machine that gives back all pages of a thread's buffers.
type Retire struct {
	b     *Buffers
	next  action
	class int // whose page is given back next
	give  *pages.Give
}

// NewRetire: a machine that gives back all pages.
func NewRetire(b *Buffers) *Retire {
	r := &Retire{b: b}
	r.seek()
	return r
}

// seek goes on with the lowest class for which there is a page; without one it is over.
func (r *Retire) seek() {
	r.next = finished
	for class := range r.b.Held() {
		r.class, r.give, r.next = class, r.b.give(class), givePage
		return
	}
}

// Step makes the next access; is it over?
func (r *Retire) Step(p *arena.Port) bool {
	// An access without a grant would be a fault, and lost on the machine.
	if r.Over() || !p.Open() {
		return r.Over()
	}
	// Another machine may have changed the buffers since this one was made.
	r.seek()
	if r.next == givePage && r.give.Step(p) {
		r.b.drop(r.class)
		r.seek()
	}
	return r.Over()
}

// Over: is it over?
func (r *Retire) Over() bool { return r == nil || r.next == finished }
