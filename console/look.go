package console

import (
	"slices"

	"windrow/api"
	"windrow/code"
	"windrow/image"
	"windrow/plain"
	"windrow/world"
)

// statuses are the words for what a thread is at.
var statuses = [...]string{
	api.Running: "running",
	api.Joining: "joining",
	api.Wanting: "wanting",
	api.Ended:   "ended",
	api.Trapped: "trapped",
}

// look tells what an order asks about the world, which stays as it is.
func (p *player) look(o Order) api.Errno {
	v, e := p.world.View()
	if e != api.OK {
		return e
	}
	switch o.Kind {
	case Out:
		p.tellOutputs()
	case Threads:
		p.tellThreads(v.Threads)
	case Heap:
		return p.tellHeap(v)
	case Globals:
		p.tellGlobals(v.Globals)
	case State:
		p.tell("state over", toldBit(p.world.Over()), "threads", told(p.world.Count()), "outputs", told(len(p.world.Outputs())))
	case Events:
		p.tellEvents(o.Nums[0])
	case Again:
		return p.again()
	case Ask:
		return p.ask(v.Threads, o.Nums[0], o.Nums[1])
	}
	return api.OK
}

func (p *player) tellOutputs() {
	for _, o := range p.world.Outputs() {
		p.tell("out", told(o.Thread), told(o.N))
	}
}

func (p *player) tellThreads(l []api.Thread) {
	for n, t := range l {
		p.tell("thread", told(n), statuses[t.Status], told(t.Result), told(t.Trap))
	}
}

// tellGlobals tells how many of them refer to something.
func (p *player) tellGlobals(refs []int64) {
	n := 0
	for _, ref := range refs {
		if ref != 0 {
			n++
		}
	}
	p.tell("globals", told(n))
}

// tellEvents tells the last ones: so many at most.
func (p *player) tellEvents(most int) {
	l := p.world.Events()
	for _, e := range l[max(0, len(l)-most):] {
		p.tell("event", told(e.Thread), told(e.Fn), told(e.Pc), code.Name(e.Op), told(e.Trap))
	}
}

// tellHeap tells the objects that are reached, by names that don't hang on where they are.
func (p *player) tellHeap(v world.View) api.Errno {
	canon, e := image.Canon(p.program.Table(), image.Image{Roots: v.Roots, Cells: complete(v.Cells)})
	if e != api.OK {
		return e
	}
	own := p.program.Program().Classes
	p.tell("heap", told(len(canon.Cells)))
	for _, c := range canon.Cells {
		words := []string{"object", told(c.Addr), kindWord(own, c)}
		for _, n := range c.Words {
			words = append(words, told(n))
		}
		p.tell(words...)
	}
	return api.OK
}

// complete adds an object wherever a word might refer to one that there isn't. A sweep frees objects one after the other, so that what isn't reached may refer to what is gone; but an image has a Canon only if nothing does.
func complete(cells []api.Cell) []api.Cell {
	numbers := map[int64]int{}
	for n, c := range cells {
		numbers[c.Addr] = n
	}
	l := slices.Clone(cells)
	for _, c := range cells {
		for _, word := range c.Words {
			if _, there := numbers[word]; !there && word > 0 {
				numbers[word] = len(l)
				l = append(l, api.Cell{Addr: word, Kind: api.Ints})
			}
		}
	}
	return l
}

// kindWord: the word for what an object is.
func kindWord(own []api.Class, c api.Cell) string {
	switch c.Kind {
	case api.Ints:
		return "ints"
	case api.Refs:
		return "refs"
	}
	return own[c.Class].Name
}

// again has a plain machine do what the threads did, and tells whether it came to the same.
func (p *player) again() api.Errno {
	m, e := plain.New(p.program, p.world.Plan().Threads)
	if e != api.OK {
		return e
	}
	same := true
	for _, event := range p.world.Events() {
		did, ok := m.Do(event.Thread, event.Trap != api.TrapMemory)
		// Where an object is, and by which pick it was made, hangs on the heap and the script.
		did.Addr, did.At = event.Addr, event.At
		same = same && ok && did == event
	}
	verdict := "other"
	if same && slices.Equal(m.Outputs(), p.world.Outputs()) {
		verdict = "same"
	}
	p.tell("again", verdict, told(len(m.Cells())))
	return api.OK
}

// ask tells a local of a thread's last frame.
func (p *player) ask(l []api.Thread, t, local int) api.Errno {
	if t >= len(l) {
		return api.ErrArg
	}
	n := len(l[t].Frames)
	if n == 0 {
		return api.ErrState
	}
	locals := l[t].Frames[n-1].Locals
	if local >= len(locals) {
		return api.ErrLocal
	}
	switch v := locals[local]; v.Type {
	case api.Int:
		p.tell("local int", told(v.N))
	case api.Ref:
		p.tell("local ref", toldBit(v.N != 0))
	default:
		p.tell("local none")
	}
	return api.OK
}
