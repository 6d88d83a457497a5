package tlab

import (
	"windrow/api"
	"windrow/arena"
	"windrow/header"
	"windrow/layout"
	"windrow/objects"
	"windrow/pages"
	"windrow/ring"
	"windrow/sizes"
)

// Alloc is a machine that makes an object.
type Alloc struct {
	b     *Buffers
	h     header.Head
	next  action
	class int // of a small object
	own   int // how many pages the object has for itself; 0: it is small
	page  int
	at    int // the word of the page at which the object begins
	claim *pages.Claim
	give  *pages.Give
	run   *pages.Run
	build *objects.Build
	push  *ring.Push
	none  bool
	addr  int
}

// NewAlloc: a machine that makes an object with this header.
func NewAlloc(b *Buffers, h header.Head) (*Alloc, api.Errno) {
	if b == nil {
		return nil, api.ErrNil
	}
	own, e := sizes.Pages(h.Words())
	if e != api.OK {
		// Only a header that isn't valid has no words, and none has too many.
		return nil, api.ErrForm
	}
	a := &Alloc{b: b, h: h, own: own, next: findPages}
	switch {
	case own == 0:
		a.class, _ = sizes.Class(h.Words())
		a.next = findCell
	case own > b.plan.Pages:
		a.fail()
	}
	return a, api.OK
}

// Step makes the next access; is it over?
func (a *Alloc) Step(p *arena.Port) bool {
	// An access without a grant would be a fault, and lost on the machine.
	if a.Over() || !p.Open() {
		return a.Over()
	}
	a.choose()
	switch a.next {
	case claimPage:
		a.stepClaim(p)
	case givePage:
		a.stepGive(p)
	case runPages:
		a.stepRun(p)
	case buildWords:
		if a.build.Step(p) {
			a.next = shadeCell
		}
	case shadeCell:
		p.Or(a.b.plan.Mark(a.page), 1<<a.at)
		a.next = allocCell
	case allocCell:
		p.Or(a.b.plan.Alloc(a.page), 1<<a.at)
		a.allocated()
	case publish:
		a.stepPublish(p)
	case pushAddr:
		a.stepPush(p)
	case tellOver:
		p.Store(layout.Over, 1)
		a.next = finished
	}
	return a.Over()
}

// choose settles what comes next where that hangs on the buffers as they are now: another machine may have changed them since this one was made.
func (a *Alloc) choose() {
	switch a.next {
	case findCell:
		a.findCell()
	case findPages:
		// An object has at most MaxRun pages; a run of buffers that New hasn't made is nil, and over.
		a.run, _ = pages.NewRun(a.b.plan, a.b.t, a.b.cycle, a.own)
		a.next = runPages
	case shadeCell:
		if a.b.colour == White {
			a.next = allocCell
		}
	}
}

// findCell begins with the lowest free cell of the page of the class, or with what must come ahead of that.
func (a *Alloc) findCell() {
	h := a.b.holds[a.class]
	at := sizes.First(a.class, h.alloc, 0)
	switch {
	case !h.held:
		a.claim, _ = pages.NewClaim(a.b.plan, a.b.t, a.b.cycle, a.class)
		a.next = claimPage
	case at < 0:
		a.give = a.b.give(a.class)
		a.next = givePage
	default:
		a.begin(h.page, at)
	}
}

// begin makes the object's words there.
func (a *Alloc) begin(page, at int) {
	a.page, a.at = page, at
	// A free cell is large enough for all objects of its class, as pages are that were got for this object.
	a.build, _ = objects.NewBuild(a.b.plan, a.place(), a.h)
	a.next = buildWords
}

// place: where the object stands.
func (a *Alloc) place() int { return a.b.plan.Addr(a.page, a.at) }

// fail ends without room.
func (a *Alloc) fail() { a.none, a.next = true, finished }

func (a *Alloc) stepClaim(p *arena.Port) {
	if !a.claim.Step(p) {
		return
	}
	if !a.claim.Got() {
		a.fail()
		return
	}
	a.b.holds[a.class] = hold{held: true, page: a.claim.Page(), alloc: a.claim.Alloc()}
	a.next = findCell
}

func (a *Alloc) stepGive(p *arena.Port) {
	if a.give.Step(p) {
		a.b.drop(a.class)
		a.next = findCell
	}
}

func (a *Alloc) stepRun(p *arena.Port) {
	if !a.run.Step(p) {
		return
	}
	if !a.run.Got() {
		a.fail()
		return
	}
	a.begin(a.run.Page(), 0)
}

// allocated: from now on the object has its address.
func (a *Alloc) allocated() {
	a.addr = a.place()
	if a.own > 0 {
		a.next = publish
		return
	}
	a.b.holds[a.class].alloc |= 1 << a.at
	a.conclude()
}

func (a *Alloc) stepPublish(p *arena.Port) {
	// The run has got its pages, so that its entry is a valid one.
	e, _ := a.run.Publish()
	w, _ := header.EncodeEntry(e)
	p.Store(a.b.plan.Entry(a.page), w)
	a.conclude()
}

// conclude puts a grey object into the thread's ring; with any other one the machine is over.
func (a *Alloc) conclude() {
	if a.b.colour != Grey {
		a.next = finished
		return
	}
	a.push, _ = ring.NewPush(a.b.plan, a.b.t, uint64(a.addr))
	a.next = pushAddr
}

func (a *Alloc) stepPush(p *arena.Port) {
	switch {
	case !a.push.Step(p):
		return
	case a.push.Full():
		a.next = tellOver
	default:
		a.next = finished
	}
}

// Over: is it over? None: was there no room?
func (a *Alloc) Over() bool { return a == nil || a.next == finished }

func (a *Alloc) None() bool { return a != nil && a.none }

// Addr: where the object is, from the step on that made it one that is allocated; 0: it isn't yet.
func (a *Alloc) Addr() int {
	if a == nil {
		return 0
	}
	return a.addr
}
