package collect_test

import (
	"slices"
	"testing"

	"windrow/api"
	"windrow/arena"
	"windrow/classes"
	"windrow/collect"
	"windrow/header"
	"windrow/layout"
	"windrow/mutator"
	"windrow/tlab"
)

// most is more steps than a cycle of these tests takes.
const most = 100000

// subject is a thread that notes what the collector does for it.
type subject struct {
	roots  []int64
	served []uint64
	retire func() *tlab.Retire
	serve  func(epoch uint64)
}

func (s *subject) Roots() []int64 { return s.roots }

func (s *subject) Serve(epoch uint64) {
	s.served = append(s.served, epoch)
	if s.serve != nil {
		s.serve(epoch)
	}
}

func (s *subject) Retire() *tlab.Retire {
	if s.retire == nil {
		return tlab.NewRetire(nil)
	}
	return s.retire()
}

// bench is a collector with an arena that is made by hand.
type bench struct {
	*testing.T
	plan     layout.Plan
	table    *classes.Table
	a        *arena.Arena
	p        *arena.Port
	c        *collect.Collector
	most     int
	subjects []*subject
	asked    []int // the threads that were found
	log      []api.Access
	quick    bool // threads respond to handshakes at once
}

// tableOf: the classes node (a:ref n:int b:ref) and leaf (n:int).
func tableOf(t *testing.T) *classes.Table {
	t.Helper()
	table, _, e := classes.New([]api.Class{
		{Name: "node", Fields: []api.Field{{Name: "a", Type: api.Ref}, {Name: "n", Type: api.Int}, {Name: "b", Type: api.Ref}}},
		{Name: "leaf", Fields: []api.Field{{Name: "n", Type: api.Int}}},
	})
	if e != api.OK {
		t.Fatal(e)
	}
	return table
}

// benched: a collector that is idle, with so many places on its stack. No thread is there.
func benched(t *testing.T, plan layout.Plan, marks int) *bench {
	t.Helper()
	b := &bench{T: t, plan: plan, table: tableOf(t), most: marks, quick: true, subjects: make([]*subject, plan.Threads)}
	var e api.Errno
	if b.a, e = arena.New(plan.Cells(), false); e != api.OK {
		t.Fatal(e)
	}
	b.p, _ = b.a.Port(api.CollectorID)
	b.c, e = collect.New(plan, b.table, marks, func(n int) collect.Subject {
		b.asked = append(b.asked, n)
		if n < 0 || n >= len(b.subjects) || b.subjects[n] == nil {
			return nil
		}
		return b.subjects[n]
	})
	if b.c == nil || e != api.OK {
		t.Fatalf("New = %v, %d", b.c, e)
	}
	return b
}

func (b *bench) poke(at int, v uint64) {
	b.Helper()
	if e := b.a.Poke(at, v); e != api.OK {
		b.Fatal(at, e)
	}
}

func (b *bench) peek(at int) uint64 {
	v, e := b.a.Peek(at)
	if e != api.OK {
		b.Fatal(at, e)
	}
	return v
}

// step makes one, with one access.
func (b *bench) step() {
	b.p.Grant()
	before := b.a.Count()
	if did := b.c.Step(b.p); !did || b.a.Count() != before+1 || b.a.Faults() > 0 {
		b.Fatalf("%v, %d accesses, %d faults", did, b.a.Count()-before, b.a.Faults())
	}
	if l := b.c.Stack(); len(l) > b.most || slices.Contains(l, 0) {
		b.Fatalf("a stack of %v", l)
	}
	if slices.Contains(b.c.Flight(), 0) {
		b.Fatal(b.c.Flight())
	}
	if b.quick {
		b.respond()
	}
}

// respond: each thread that runs responds to the handshake.
func (b *bench) respond() {
	for n := range b.plan.Threads {
		if b.peek(b.plan.Status(n)) == mutator.Runs {
			b.poke(b.plan.Ack(n), b.peek(layout.Epoch))
		}
	}
}

// upTo makes steps until a phase begins.
func (b *bench) upTo(phase int) {
	b.Helper()
	for range most {
		if b.c.Phase() == phase {
			return
		}
		b.step()
	}
	b.Fatalf("phase %d doesn't begin: it is %d", phase, b.c.Phase())
}

// cycle makes a whole one, and tells how many steps it took.
func (b *bench) cycle() int {
	b.Helper()
	done := b.c.Cycles()
	b.poke(layout.Request, 1)
	for n := range most {
		if b.c.Cycles() > done {
			return n
		}
		b.step()
	}
	b.Fatalf("the cycle doesn't end: phase %d", b.c.Phase())
	return 0
}

// stuck makes some steps that don't end the phase.
func (b *bench) stuck(phase int) {
	b.Helper()
	for range 60 {
		b.step()
		if b.c.Phase() != phase {
			b.Fatalf("phase %d behind %d", b.c.Phase(), phase)
		}
	}
}

// widths: the words of a cell of each size class.
func widths() []int { return []int{2, 3, 4, 6, 8, 12, 16, 32} }

// lay makes an object in the arena by hand, if there is room for it: its address, or 0.
func (b *bench) lay(h header.Head) int64 {
	words := h.Words()
	class := slices.IndexFunc(widths(), func(width int) bool { return width >= words })
	at := 0
	if class >= 0 {
		at = b.laySmall(class, widths()[class])
	} else {
		at = b.layLarge((words + 63) / 64)
	}
	if at > 0 {
		w, _ := header.EncodeHead(h)
		b.poke(at, w)
	}
	return int64(at)
}

func (b *bench) laySmall(class, width int) int {
	entry := uint64(header.Small | class<<2)
	for page := range b.plan.Pages {
		held, alloc := b.peek(b.plan.Entry(page)), b.peek(b.plan.Alloc(page))
		if held != entry && held != 0 {
			continue
		}
		for at := 0; at+width <= 64; at += width {
			if alloc>>at&1 == 0 {
				b.poke(b.plan.Entry(page), entry)
				b.poke(b.plan.Alloc(page), alloc|1<<at)
				return b.plan.Addr(page, at)
			}
		}
	}
	return 0
}

func (b *bench) layLarge(n int) int {
	for page := 0; page+n <= b.plan.Pages; page++ {
		free := true
		for k := range n {
			free = free && b.peek(b.plan.Entry(page+k)) == 0
		}
		if free {
			b.poke(b.plan.Entry(page), uint64(header.Large|n<<2))
			for k := 1; k < n; k++ {
				b.poke(b.plan.Entry(page+k), uint64(header.Tail|k<<2))
			}
			b.poke(b.plan.Alloc(page), 1)
			return b.plan.Addr(page, 0)
		}
	}
	return 0
}

// set makes word i of an object that.
func (b *bench) set(object int64, i int, v int64) { b.poke(int(object)+1+i, uint64(v)) }

// marked: is an object's mark set?
func (b *bench) marked(object int64) bool {
	page, word := b.plan.Place(int(object))
	return b.peek(b.plan.Mark(page))>>word&1 == 1
}

// allocated: is it still?
func (b *bench) allocated(object int64) bool {
	page, word := b.plan.Place(int(object))
	return b.peek(b.plan.Alloc(page))>>word&1 == 1
}

// put puts a word into a thread's ring by hand.
func (b *bench) put(n int, object int64) {
	tail := b.peek(b.plan.Tail(n))
	b.poke(b.plan.Slot(n, tail), uint64(object))
	b.poke(b.plan.Tail(n), tail+1)
}

// mark sets an object's mark by hand.
func (b *bench) mark(object int64) {
	page, word := b.plan.Place(int(object))
	b.poke(b.plan.Mark(page), b.peek(b.plan.Mark(page))|1<<word)
}
