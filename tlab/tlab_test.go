package tlab_test

import (
	"math"
	"slices"
	"testing"

	"windrow/api"
	"windrow/arena"
	"windrow/header"
	"windrow/layout"
	"windrow/tlab"
)

// machine is what all kinds have.
type machine interface {
	Step(p *arena.Port) bool
	Over() bool
}

const (
	who  = 7   // makes the accesses of these tests, where only one does
	most = 900 // more accesses than a machine makes that is alone in a heap of these tests
)

// page is what a page's words hold.
type page struct{ entry, alloc, mark uint64 }

// entry: an entry's word, put together as chapter 2 says.
func entry(kind, class, state, owner, cycle int) uint64 {
	return uint64(kind | class<<2 | state<<6 | owner<<8 | cycle<<16)
}

func idle(class, cycle int) uint64 { return entry(header.Small, class, header.Idle, 0, cycle) }

func owned(class, owner, cycle int) uint64 {
	return entry(header.Small, class, header.Owned, owner, cycle)
}

func busyLarge(n, owner, cycle int) uint64 {
	return entry(header.Large, n, header.Busy, owner, cycle)
}

func large(n, cycle int) uint64 { return entry(header.Large, n, header.Idle, 0, cycle) }

func tail(k int) uint64 { return entry(header.Tail, k, header.Idle, 0, 0) }

// headWord: a header's word, put together as chapter 2 says.
func headWord(h header.Head) uint64 {
	return 0xA5<<56 | uint64(h.Kind|h.Class<<8|h.Len<<16)
}

// widths: the words of a cell of each class, as chapter 5 says.
func widths() []int { return []int{2, 3, 4, 6, 8, 12, 16, 32} }

// classOf: the class of an object of so many words.
func classOf(words int) int {
	return slices.IndexFunc(widths(), func(width int) bool { return width >= words })
}

// starts: the bits of a class's cells.
func starts(class int) (l uint64) {
	for at := 0; at+widths()[class] <= 64; at += widths()[class] {
		l |= 1 << at
	}
	return l
}

// ints: an array's header.
func ints(n int) header.Head { return header.Head{Kind: api.Ints, Len: n} }

// heap: an arena of so many threads, with rings of two slots, whose pages hold these words. Each word of the heap holds 9.
func heap(t *testing.T, threads int, held ...page) (*arena.Arena, layout.Plan) {
	t.Helper()
	plan, e := layout.New(len(held), threads, 2)
	if e != api.OK {
		t.Fatal(e)
	}
	a, e := arena.New(plan.Cells(), true)
	if e != api.OK {
		t.Fatal(e)
	}
	for at := plan.Base(); at < plan.Cells(); at++ {
		a.Poke(at, 9)
	}
	for i, h := range held {
		a.Poke(plan.Entry(i), h.entry)
		a.Poke(plan.Alloc(i), h.alloc)
		a.Poke(plan.Mark(i), h.mark)
	}
	return a, plan
}

func port(t *testing.T, a *arena.Arena, who int) *arena.Port {
	t.Helper()
	p, e := a.Port(who)
	if e != api.OK {
		t.Fatal(who, e)
	}
	return p
}

func peek(t *testing.T, a *arena.Arena, at int) uint64 {
	t.Helper()
	v, e := a.Peek(at)
	if e != api.OK {
		t.Fatal(at, e)
	}
	return v
}

// buffers: new ones of a colour.
func buffers(t *testing.T, plan layout.Plan, th, cycle, colour int) *tlab.Buffers {
	t.Helper()
	b, e := tlab.New(plan, th, cycle)
	if b == nil || e != api.OK {
		t.Fatalf("New(%+v, %d, %d) = %v, %d", plan, th, cycle, b, e)
	}
	if b.Colour() != tlab.White || b.Cycle() != cycle || len(heldBy(b)) != 0 {
		t.Fatal(b.Colour(), b.Cycle(), heldBy(b))
	}
	if e := b.SetColour(colour); e != api.OK || b.Colour() != colour {
		t.Fatal(e, b.Colour(), colour)
	}
	return b
}

func newAlloc(t *testing.T, b *tlab.Buffers, h header.Head) *tlab.Alloc {
	t.Helper()
	m, e := tlab.NewAlloc(b, h)
	if m == nil || e != api.OK {
		t.Fatalf("NewAlloc(%+v) = %v, %d", h, m, e)
	}
	return m
}

// heldBy: the pages that Held tells, each with its class.
func heldBy(b *tlab.Buffers) (l [][2]int) {
	for class, i := range b.Held() {
		l = append(l, [2]int{class, i})
	}
	return l
}

// story is the accesses that a machine is to make, one after the other, and what the cells hold by then.
type story struct {
	plan  layout.Plan
	cells []uint64
	made  []api.Access
	named int // the number of the access from which on the object has its address
	addr  int
}

func tell(a *arena.Arena, plan layout.Plan) *story { return &story{plan: plan, cells: a.Image()} }

func (s *story) add(made api.Access) *story {
	made.Who, made.Seen = who, s.cells[made.At]
	switch {
	case made.Kind == api.AccStore, made.Kind == api.AccCas && made.Want == made.Seen:
		s.cells[made.At] = made.Put
	case made.Kind == api.AccOr:
		s.cells[made.At] |= made.Put
	}
	made.Left = s.cells[made.At]
	s.made = append(s.made, made)
	return s
}

func (s *story) load(at int) *story { return s.add(api.Access{Kind: api.AccLoad, At: at}) }

func (s *story) store(at int, v uint64) *story {
	return s.add(api.Access{Kind: api.AccStore, At: at, Put: v})
}

func (s *story) cas(at int, want, v uint64) *story {
	return s.add(api.Access{Kind: api.AccCas, At: at, Want: want, Put: v})
}

func (s *story) or(at int, v uint64) *story {
	return s.add(api.Access{Kind: api.AccOr, At: at, Put: v})
}

// entries: Loads of the entries of pages.
func (s *story) entries(of ...int) *story {
	for _, i := range of {
		s.load(s.plan.Entry(i))
	}
	return s
}

// obtained: the accesses that make a free page the thread's.
func (s *story) obtained(i int, by uint64) *story {
	return s.cas(s.plan.Entry(i), 0, by).store(s.plan.Alloc(i), 0).store(s.plan.Mark(i), 0)
}

// built: the accesses of steps 3 to 5; the object has its address behind the last one.
func (s *story) built(i, at, colour int, h header.Head) *story {
	s.addr = s.plan.Base() + 64*i + at
	for n := h.Len; n > 0; n-- {
		s.store(s.addr+n, 0)
	}
	s.store(s.addr, headWord(h))
	if colour != tlab.White {
		s.or(s.plan.Mark(i), 1<<at)
	}
	s.or(s.plan.Alloc(i), 1<<at)
	s.named = len(s.made) - 1
	return s
}

// pushed: the accesses of step 6.
func (s *story) pushed(th, colour int) *story {
	if colour != tlab.Grey {
		return s
	}
	head, tail := s.cells[s.plan.Head(th)], s.cells[s.plan.Tail(th)]
	s.load(s.plan.Tail(th)).load(s.plan.Head(th))
	if tail-head >= uint64(s.plan.Ring) {
		return s.store(layout.Over, 1)
	}
	return s.store(s.plan.Slot(th, tail), uint64(s.addr)).store(s.plan.Tail(th), tail+1)
}

// follow steps a machine through a story: each step makes the access that is told, and the last one ends it.
func (s *story) follow(t *testing.T, a *arena.Arena, m machine) {
	t.Helper()
	p := port(t, a, who)
	for n, want := range s.made {
		if m.Over() {
			t.Fatalf("over ahead of access %d, %+v", n, want)
		}
		if m.Step(p) {
			t.Fatal("over by a step without a grant")
		}
		count := a.Count()
		p.Grant()
		over := m.Step(p)
		if a.Count() != count+1 || p.Open() || a.Faults() != 0 {
			t.Fatal("step", n, "makes", a.Count()-count, "accesses and", a.Faults(), "faults")
		}
		if made := lastOf(a); made != want {
			t.Fatalf("access %d: %+v, not %+v", n, made, want)
		}
		if end := n == len(s.made)-1; over != end || m.Over() != end {
			t.Fatalf("behind access %d of %d: %v, %v", n, len(s.made), over, m.Over())
		}
		s.answers(t, m, n)
	}
	if !slices.Equal(a.Image(), s.cells) {
		t.Fatal("the cells hold", a.Image(), "not", s.cells)
	}
}

// answers holds what an Alloc tells behind an access against the story: an address if it is built by then, and without one no room at the end.
func (s *story) answers(t *testing.T, m machine, n int) {
	t.Helper()
	al, ok := m.(*tlab.Alloc)
	if !ok {
		return
	}
	addr, none := 0, false
	if s.addr > 0 && n >= s.named {
		addr = s.addr
	}
	if s.addr == 0 {
		none = n == len(s.made)-1
	}
	if al.Addr() != addr || al.None() != none {
		t.Fatalf("behind access %d: %d, %v, not %d, %v", n, al.Addr(), al.None(), addr, none)
	}
}

// lastOf: the access that was made last.
func lastOf(a *arena.Arena) api.Access {
	var last api.Access
	for _, made := range a.Log() {
		last = made
	}
	return last
}

// finish steps a machine until it is over; each step makes one access.
func finish(t *testing.T, a *arena.Arena, m machine) {
	t.Helper()
	p := port(t, a, who)
	for n := 0; !m.Over(); n++ {
		count := a.Count()
		p.Grant()
		over := m.Step(p)
		if over != m.Over() || a.Count() != count+1 || p.Open() || a.Faults() != 0 {
			t.Fatal("a step:", over, m.Over(), a.Count()-count, a.Faults())
		}
		if n == most {
			t.Fatal("a machine doesn't end")
		}
	}
}

// seed makes numbers without a pattern, the same in each run.
type seed uint64

func (s *seed) next() uint64 {
	x := *s
	x ^= x << 13
	x ^= x >> 7
	x ^= x << 17
	*s = x
	return uint64(x)
}

func (s *seed) below(n int) int { return int(s.next() >> 8 % uint64(n)) }

// pick: one of several.
func pick[T any](s *seed, of ...T) T { return of[s.below(len(of))] }

func TestExample(t *testing.T) {
	plan := layout.Plan{Pages: 1, Threads: 1, Ring: 1}
	a, _ := arena.New(plan.Cells(), true)
	b := buffers(t, plan, 0, 0, tlab.White)
	kinds := func() (l []int) {
		for _, made := range a.Log() {
			l = append(l, made.Kind)
		}
		return l
	}
	first := newAlloc(t, b, ints(1))
	tell(a, plan).entries(0).entries(0).obtained(0, owned(0, 0, 0)).built(0, 0, tlab.White, ints(1)).follow(t, a, first)
	want := []int{api.AccLoad, api.AccLoad, api.AccCas, api.AccStore, api.AccStore, api.AccStore, api.AccStore, api.AccOr}
	if l := kinds(); !slices.Equal(l, want) || first.Addr() != 64 || peek(t, a, 64) != 0xA500000000010002 {
		t.Error(l, first.Addr())
	}
	second := newAlloc(t, b, ints(1))
	tell(a, plan).built(0, 2, tlab.White, ints(1)).follow(t, a, second)
	if l := kinds()[len(want):]; !slices.Equal(l, []int{api.AccStore, api.AccStore, api.AccOr}) || second.Addr() != 66 {
		t.Error(l, second.Addr())
	}
}

// badNumbers: numbers that are below all ranges, or above them.
func badNumbers() []int { return []int{math.MinInt, -1, 1 << 33, math.MaxInt} }

// badPlans: plans of which one number, or each, is out of its range.
func badPlans() []layout.Plan {
	l := []layout.Plan{{}, {Pages: 33, Threads: 1, Ring: 1}, {Pages: 1, Threads: 7, Ring: 1}, {Pages: 1, Threads: 1, Ring: 17}}
	for _, n := range append(badNumbers(), 0) {
		l = append(l, layout.Plan{Pages: n, Threads: 1, Ring: 1}, layout.Plan{Pages: 1, Threads: n, Ring: 1}, layout.Plan{Pages: 1, Threads: 1, Ring: n}, layout.Plan{Pages: n, Threads: n, Ring: n})
	}
	return l
}

// P12.1: New takes a thread that the plan has, and a cycle.
func TestNew(t *testing.T) {
	try := func(plan layout.Plan, th, cycle int, want api.Errno) {
		t.Helper()
		if b, e := tlab.New(plan, th, cycle); e != want || (b == nil) != (want != api.OK) {
			t.Errorf("New(%+v, %d, %d) = %v, %d, not %d", plan, th, cycle, b, e, want)
		}
	}
	for _, plan := range badPlans() {
		try(plan, 0, 0, api.ErrArg)
	}
	for n := 1; n <= 6; n++ {
		plan := layout.Plan{Pages: 1, Threads: n, Ring: 1}
		for th := range n {
			for _, cycle := range []int{0, 1, api.MaxCycle - 1, api.MaxCycle} {
				try(plan, th, cycle, api.OK)
			}
			for _, cycle := range append(badNumbers(), api.MaxCycle+1) {
				try(plan, th, cycle, api.ErrArg)
			}
		}
		for _, th := range append(badNumbers(), n, n+1, 15) {
			try(plan, th, 0, api.ErrArg)
		}
	}
}

// P12.1: colours and cycles that there are not change nothing; neither does a cycle while there is a page.
func TestSet(t *testing.T) {
	a, plan := heap(t, 1, page{})
	b := buffers(t, plan, 0, 5, tlab.Black)
	cycle := func(n int, want api.Errno, left int) {
		t.Helper()
		if e := b.SetCycle(n); e != want || b.Cycle() != left {
			t.Errorf("SetCycle(%d) = %d, not %d; %d, not %d", n, e, want, b.Cycle(), left)
		}
	}
	for _, colour := range append(badNumbers(), 3, 4) {
		if e := b.SetColour(colour); e != api.ErrArg || b.Colour() != tlab.Black {
			t.Error(colour, e, b.Colour())
		}
	}
	for _, n := range []int{0, 7, api.MaxCycle, 6} {
		cycle(n, api.OK, n)
	}
	for _, n := range append(badNumbers(), api.MaxCycle+1) {
		cycle(n, api.ErrArg, 6)
	}
	finish(t, a, newAlloc(t, b, ints(30)))
	for _, n := range append(badNumbers(), api.MaxCycle+1) {
		cycle(n, api.ErrArg, 6)
	}
	for _, n := range []int{0, 5, 6, 7} {
		cycle(n, api.ErrState, 6)
	}
	for _, colour := range []int{tlab.White, tlab.Grey, tlab.Black} {
		if e := b.SetColour(colour); e != api.OK || b.Colour() != colour {
			t.Error(colour, e, b.Colour())
		}
	}
	finish(t, a, tlab.NewRetire(b))
	cycle(7, api.OK, 7)
}

// P12.1: a header that is none makes no machine; nil buffers come first.
func TestNewAllocErrors(t *testing.T) {
	_, plan := heap(t, 1, page{}, page{}, page{}, page{})
	b := buffers(t, plan, 0, 0, tlab.White)
	wrong := []header.Head{
		{}, {Kind: -1}, {Kind: 4, Len: 1}, {Kind: api.Ints, Len: -1}, {Kind: api.Ints, Len: 256}, {Kind: api.Refs, Len: 256}, {Kind: api.Refs, Class: 1}, {Kind: api.Ints, Class: -1},
		{Kind: api.Fields, Class: 16}, {Kind: api.Fields, Class: -1}, {Kind: api.Fields, Len: 16}, {Kind: api.Fields, Len: -1}, {Kind: api.Ints, Len: math.MaxInt}, {Kind: api.Ints, Len: math.MinInt}, {Kind: api.Ints + 256, Len: 1},
	}
	for _, h := range wrong {
		if m, e := tlab.NewAlloc(b, h); m != nil || e != api.ErrForm {
			t.Errorf("NewAlloc(%+v) = %v, %d", h, m, e)
		}
		if m, e := tlab.NewAlloc(nil, h); m != nil || e != api.ErrNil {
			t.Errorf("NewAlloc(nil, %+v) = %v, %d", h, m, e)
		}
	}
	if m, e := tlab.NewAlloc(nil, ints(1)); m != nil || e != api.ErrNil {
		t.Error(m, e)
	}
	for _, h := range []header.Head{ints(0), ints(255), {Kind: api.Refs}, {Kind: api.Refs, Len: 255}, {Kind: api.Fields}, {Kind: api.Fields, Class: 15, Len: 15}} {
		if m := newAlloc(t, b, h); m.Over() || m.None() || m.Addr() != 0 {
			t.Errorf("%+v: %v, %v, %d", h, m.Over(), m.None(), m.Addr())
		}
	}
}

// still holds that a machine that is over makes no access and keeps the grant.
func still(t *testing.T, a *arena.Arena, m machine) {
	t.Helper()
	p, count := port(t, a, who), a.Count()
	before := a.Image()
	for range 3 {
		if !m.Step(p) || !m.Over() || !m.Step(nil) {
			t.Error("a machine that is over goes on")
		}
	}
	p.Grant()
	for range 3 {
		if !m.Step(p) || !m.Over() || !p.Open() {
			t.Error("a machine that is over makes an access")
		}
	}
	if a.Count() != count || a.Faults() != 0 || !slices.Equal(a.Image(), before) {
		t.Error(a.Count()-count, a.Faults())
	}
}

// P12.1: nil buffers and machines, and such as no call has made.
func TestNil(t *testing.T) {
	a, plan := heap(t, 1, page{}, page{})
	var b *tlab.Buffers
	if b.Colour() != tlab.White || b.Cycle() != 0 || b.Held() == nil || len(heldBy(b)) != 0 {
		t.Error(b.Colour(), b.Cycle(), heldBy(b))
	}
	for _, n := range append(badNumbers(), 0, 1, 3) {
		if e, f := b.SetColour(n), b.SetCycle(n); e != api.ErrNil || f != api.ErrNil {
			t.Error(n, e, f)
		}
	}
	if r := tlab.NewRetire(nil); r == nil {
		t.Error("no machine")
	}
	var al *tlab.Alloc
	var r *tlab.Retire
	for _, m := range []machine{al, &tlab.Alloc{}, r, &tlab.Retire{}, tlab.NewRetire(nil), tlab.NewRetire(&tlab.Buffers{}), tlab.NewRetire(buffers(t, plan, 0, 0, 0))} {
		still(t, a, m)
	}
	for _, al := range []*tlab.Alloc{nil, {}} {
		if al.None() || al.Addr() != 0 {
			t.Error(al.None(), al.Addr())
		}
	}
	p := port(t, a, who)
	for _, h := range []header.Head{ints(0), ints(31), ints(32), ints(255)} {
		m, e := tlab.NewAlloc(&tlab.Buffers{}, h)
		for p.Grant(); !m.Step(p); p.Grant() {
		}
		if e != api.OK || !m.None() || m.Addr() != 0 {
			t.Error(e, m.None(), m.Addr())
		}
	}
}

// Held goes through what there was when it was asked for, can be stopped, and used again.
func TestHeld(t *testing.T) {
	a, plan := heap(t, 1, make([]page, 8)...)
	b := buffers(t, plan, 0, 3, tlab.White)
	none := b.Held()
	var want [][2]int
	// A page of each class, the widest one's first.
	for class := 7; class >= 0; class-- {
		finish(t, a, newAlloc(t, b, ints(widths()[class]-1)))
		want = append([][2]int{{class, 7 - class}}, want...)
		if l := heldBy(b); !slices.Equal(l, want) {
			t.Error(l, want)
		}
	}
	all := b.Held()
	for range 2 {
		n := 0
		for class, i := range all {
			if class != want[n][0] || i != want[n][1] {
				t.Error(class, i, want[n])
			}
			if n++; n == 3 {
				break
			}
		}
	}
	finish(t, a, tlab.NewRetire(b))
	var l [][2]int
	for class, i := range all {
		l = append(l, [2]int{class, i})
	}
	for range none {
		t.Error("there was no page")
	}
	if !slices.Equal(l, want) || len(heldBy(b)) != 0 {
		t.Error(l, heldBy(b))
	}
}
