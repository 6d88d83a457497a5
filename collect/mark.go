package collect

import (
	"windrow/api"
	"windrow/arena"
	"windrow/header"
	"windrow/layout"
	"windrow/mutator"
	"windrow/objects"
	"windrow/ring"
	"windrow/shade"
	"windrow/word"
)

// strange: is it no reference to something in the heap?
func (c *Collector) strange(ref int64) bool { return !c.plan.Ref(uint64(ref)) }

// stepMark marks a reference.
func (c *Collector) stepMark(p *arena.Port) {
	switch c.next {
	case loadGlobal:
		ref := int64(p.Load(c.plan.Global(c.global)))
		c.global++
		c.take(ref)
	case setMark:
		c.mark.Step(p)
		if c.mark.Fresh() {
			c.push()
			return
		}
		c.drop()
	case tellFull:
		p.Store(layout.Over, 1)
		c.drop()
	}
}

// take has a reference marked, if it refers to something.
func (c *Collector) take(ref int64) {
	// For what is no reference of the heap there is no machine, as if it were over.
	c.mark, _ = shade.NewMark(c.plan, uint64(ref))
	if c.mark.Over() {
		c.seek()
		return
	}
	c.ref, c.next = ref, setMark
}

// push keeps an object that it was the first to mark, if the stack has room.
func (c *Collector) push() {
	if len(c.stack) == c.most {
		c.next = tellFull
		return
	}
	c.stack = append(c.stack, c.ref)
	c.drop()
}

// drop: the reference in hand is marked, and kept or told as lost.
func (c *Collector) drop() {
	c.ref = 0
	c.seek()
}

// seek goes on with what is to be marked or examined next.
func (c *Collector) seek() {
	switch c.phase {
	case Scanning:
		c.seekRoot()
	case Rooting:
		c.next = loadGlobal
		if c.global == api.Globals {
			c.shake(Blending, mutator.Blend)
		}
	default:
		c.seekObject()
	}
}

// seekRoot goes on with the thread that is served.
func (c *Collector) seekRoot() {
	if len(c.roots) == 0 {
		c.next = storeAck
		return
	}
	ref := c.roots[0]
	c.roots = c.roots[1:]
	c.take(ref)
}

// seekObject goes on with the object that is examined, or with another one. Those on the stack come first, so that it has room for more.
func (c *Collector) seekObject() {
	if len(c.fields) > 0 {
		c.next = loadField
		return
	}
	c.object = 0
	last := len(c.stack) - 1
	switch {
	case last >= 0:
		c.examine(c.stack[last])
		c.stack = c.stack[:last]
	case len(c.again) > 0:
		c.examine(c.again[0])
		c.again = c.again[1:]
	case c.page < c.plan.Pages:
		c.next = loadMarks
	default:
		c.seekRing(c.t)
	}
}

// examine begins with an object, whose references are marked.
func (c *Collector) examine(object int64) { c.object, c.next = object, loadHead }

// seekRing looks whether a thread's ring has an object; behind the last one, whether one had no room.
func (c *Collector) seekRing(t int) {
	c.t, c.next = t, loadOver
	if t < c.plan.Threads {
		// The plan has that thread.
		c.pop, _ = ring.NewPop(c.plan, t)
		c.next = popRing
	}
}

// stepExamine examines objects until nothing is left.
func (c *Collector) stepExamine(p *arena.Port) {
	switch c.next {
	case loadHead:
		// What is no header has no references.
		h, _ := header.DecodeHead(p.Load(int(c.object)))
		for i := range c.table.Pointers(h) {
			c.fields = append(c.fields, i)
		}
		c.seekObject()
	case loadField:
		i := c.fields[0]
		c.fields = c.fields[1:]
		c.take(int64(p.Load(objects.Field(int(c.object), i))))
	case popRing:
		if c.pop.Step(p) {
			c.popped()
		}
	case loadOver:
		c.seeOver(p.Load(layout.Over))
	case clearOver:
		p.Store(layout.Over, 0)
		c.t, c.page = 0, 0
		c.found()
		c.seekObject()
	case loadMarks:
		c.marked = p.Load(c.plan.Mark(c.page))
		c.next = loadAlloc
	case loadAlloc:
		c.gather(p.Load(c.plan.Alloc(c.page)))
	}
}

// found: something was added since the last handshake Check.
func (c *Collector) found() { c.phase, c.checked = Marking, false }

// popped goes on with what was in a thread's ring.
func (c *Collector) popped() {
	if c.pop.Empty() {
		c.seekRing(c.t + 1)
		return
	}
	c.found()
	if object := int64(c.pop.Value()); !c.strange(object) {
		c.examine(object)
		return
	}
	c.seekObject()
}

// seeOver: if no ring and no stack lacked room, nothing is left to be examined.
func (c *Collector) seeOver(over uint64) {
	switch {
	case over != 0:
		c.next = clearOver
	case c.checked:
		c.shake(Quieting, mutator.Quiet)
	default:
		c.shake(Checking, mutator.Check)
	}
}

// gather has the objects of a page examined again that are marked and allocated.
func (c *Collector) gather(alloc uint64) {
	for at := range word.Bits(c.marked & alloc) {
		c.again = append(c.again, int64(c.plan.Addr(c.page, at)))
	}
	c.page++
	c.seekObject()
}
