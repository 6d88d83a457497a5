package shade_test

import (
	"math"
	"slices"
	"testing"

	"windrow/api"
	"windrow/arena"
	"windrow/layout"
	"windrow/ring"
	"windrow/shade"
)

// machine is what both kinds have.
type machine interface {
	Step(p *arena.Port) bool
	Over() bool
	Fresh() bool
}

// arenaOf: an arena of a plan's cells, all 0, that keeps its accesses.
func arenaOf(t *testing.T, plan layout.Plan) *arena.Arena {
	t.Helper()
	a, e := arena.New(plan.Cells(), true)
	if e != api.OK {
		t.Fatalf("%+v: %d", plan, e)
	}
	return a
}

func port(t *testing.T, a *arena.Arena, who int) *arena.Port {
	t.Helper()
	p, e := a.Port(who)
	if e != api.OK {
		t.Fatal(who, e)
	}
	return p
}

func newMark(t *testing.T, plan layout.Plan, ref uint64) *shade.Mark {
	t.Helper()
	m, e := shade.NewMark(plan, ref)
	if m == nil || e != api.OK {
		t.Fatalf("NewMark(%+v, %d) = %v, %d", plan, ref, m, e)
	}
	return m
}

func newShade(t *testing.T, plan layout.Plan, th int, ref uint64) *shade.Shade {
	t.Helper()
	m, e := shade.NewShade(plan, th, ref)
	if m == nil || e != api.OK {
		t.Fatalf("NewShade(%+v, %d, %d) = %v, %d", plan, th, ref, m, e)
	}
	return m
}

// logged: the accesses that an arena has kept, from the n-th on.
func logged(a *arena.Arena, n int) []api.Access {
	var l []api.Access
	for i, x := range a.Log() {
		if i >= n {
			l = append(l, x)
		}
	}
	return l
}

// run steps a machine until it is over: the accesses that it made. Each step must make one.
func run(t *testing.T, a *arena.Arena, m machine) []api.Access {
	t.Helper()
	p := port(t, a, 7)
	first := a.Count()
	for n := first; !m.Over(); n++ {
		if n == first+6 {
			t.Fatal("a sixth access", logged(a, first))
		}
		p.Grant()
		if over := m.Step(p); over != m.Over() {
			t.Fatal("Step says", over)
		}
		if a.Count() != n+1 || p.Open() || a.Faults() != 0 {
			t.Fatal("a step makes one access", a.Count()-n, p.Open(), a.Faults())
		}
	}
	return logged(a, first)
}

func load(at int, v uint64) api.Access {
	return api.Access{Who: 7, Kind: api.AccLoad, At: at, Seen: v, Left: v}
}

func store(at int, seen, v uint64) api.Access {
	return api.Access{Who: 7, Kind: api.AccStore, At: at, Put: v, Seen: seen, Left: v}
}

func or(at int, bits, seen uint64) api.Access {
	return api.Access{Who: 7, Kind: api.AccOr, At: at, Put: bits, Seen: seen, Left: seen | bits}
}

// plans: some that are valid, the smallest and the greatest among them.
func plans() []layout.Plan {
	return []layout.Plan{{Pages: 1, Threads: 1, Ring: 1}, {Pages: 2, Threads: 1, Ring: 4}, {Pages: 3, Threads: 2, Ring: 3}, {Pages: 32, Threads: 6, Ring: 16}}
}

// badPlans: plans of which one number, or each, is out of its range.
func badPlans() []layout.Plan {
	l := []layout.Plan{{}, {Pages: 33, Threads: 1, Ring: 1}, {Pages: 1, Threads: 7, Ring: 1}, {Pages: 1, Threads: 1, Ring: 17}}
	for _, n := range []int{math.MinInt, -1, 0, 1 << 32, math.MaxInt} {
		l = append(l, layout.Plan{Pages: n, Threads: 1, Ring: 1}, layout.Plan{Pages: 1, Threads: n, Ring: 1}, layout.Plan{Pages: 1, Threads: 1, Ring: n}, layout.Plan{Pages: n, Threads: n, Ring: n})
	}
	return l
}

// noRefs: words that are neither 0 nor references of a plan, those among them whose low bits are a reference's.
func noRefs(plan layout.Plan) []uint64 {
	base, end := uint64(plan.Base()), uint64(plan.Cells())
	return []uint64{1, 8, 16, 63, base - 1, end, end + 1, end + 63, 4095, 4096, base | 1<<12, base | 1<<32, base | 1<<63, -base, ^base, 1 << 63, math.MaxUint64}
}

func TestExample(t *testing.T) {
	plan := layout.Plan{Pages: 1, Threads: 1, Ring: 1}
	a := arenaOf(t, plan)
	head, tail, slot, mark := 19, 20, 21, 24
	if plan.Base() != 64 || plan.Mark(0) != mark {
		t.Fatal(plan.Base(), plan.Mark(0))
	}
	s := newShade(t, plan, 0, 66)
	if l := run(t, a, s); !slices.Equal(l, []api.Access{or(mark, 4, 0), load(tail, 0), load(head, 0), store(slot, 0, 66), store(tail, 0, 1)}) || !s.Fresh() || s.Lost() {
		t.Error("66:", l, s.Fresh(), s.Lost())
	}
	s = newShade(t, plan, 0, 66)
	if l := run(t, a, s); !slices.Equal(l, []api.Access{or(mark, 4, 4)}) || s.Fresh() || s.Lost() {
		t.Error("66 again:", l, s.Fresh(), s.Lost())
	}
	s = newShade(t, plan, 0, 70)
	if l := run(t, a, s); !slices.Equal(l, []api.Access{or(mark, 1<<6, 4), load(tail, 1), load(head, 0), store(layout.Over, 0, 1)}) || !s.Fresh() || !s.Lost() {
		t.Error("70:", l, s.Fresh(), s.Lost())
	}
	for ref := uint64(64); ref < 128; ref++ {
		if shade.Marked(a, plan, ref) != (ref == 66 || ref == 70) {
			t.Error("Marked", ref)
		}
	}
}

func TestErrors(t *testing.T) {
	for _, plan := range badPlans() {
		for _, ref := range []uint64{0, 1, 64, 66, math.MaxUint64} {
			if m, e := shade.NewMark(plan, ref); m != nil || e != api.ErrArg {
				t.Errorf("NewMark(%+v, %d) = %v, %d", plan, ref, m, e)
			}
			if m, e := shade.NewShade(plan, 0, ref); m != nil || e != api.ErrArg {
				t.Errorf("NewShade(%+v, 0, %d) = %v, %d", plan, ref, m, e)
			}
			if shade.Marked(arenaOf(t, plans()[0]), plan, ref) || shade.Marked(nil, plan, ref) {
				t.Errorf("Marked(%+v, %d)", plan, ref)
			}
		}
	}
	for _, plan := range plans() {
		for _, th := range []int{math.MinInt, -1, plan.Threads, 6, 1 << 32, math.MaxInt} {
			// A thread that there isn't comes before an address that is none.
			for _, ref := range []uint64{0, 1, uint64(plan.Base()), math.MaxUint64} {
				if m, e := shade.NewShade(plan, th, ref); m != nil || e != api.ErrArg {
					t.Errorf("NewShade(%+v, %d, %d) = %v, %d", plan, th, ref, m, e)
				}
			}
		}
		for _, ref := range noRefs(plan) {
			if m, e := shade.NewMark(plan, ref); m != nil || e != api.ErrAddr {
				t.Errorf("NewMark(%+v, %d) = %v, %d", plan, ref, m, e)
			}
			if m, e := shade.NewShade(plan, plan.Threads-1, ref); m != nil || e != api.ErrAddr {
				t.Errorf("NewShade(%+v, %d) = %v, %d", plan, ref, m, e)
			}
		}
	}
}

// P8.1: the one access of a mark, at each reference and whatever the other bits are.
func TestMarkAlone(t *testing.T) {
	for _, plan := range plans() {
		for page := range plan.Pages {
			for word := range api.PageWords {
				ref, bit := uint64(plan.Addr(page, word)), uint64(1)<<word
				for _, seen := range []uint64{0, bit, ^bit, math.MaxUint64, 0xF0F0F0F0F0F0F0F0} {
					a := arenaOf(t, plan)
					a.Poke(plan.Mark(page), seen)
					before := a.Image()
					before[plan.Mark(page)] = seen | bit
					m := newMark(t, plan, ref)
					if m.Over() || m.Fresh() || shade.Marked(a, plan, ref) != (seen&bit != 0) {
						t.Fatalf("%+v: %d ahead: %v, %v", plan, ref, m.Over(), m.Fresh())
					}
					l := run(t, a, m)
					if !slices.Equal(l, []api.Access{or(plan.Mark(page), bit, seen)}) || m.Fresh() != (seen&bit == 0) {
						t.Fatalf("%+v: %d, seen %x: %v, %v", plan, ref, seen, l, m.Fresh())
					}
					if !slices.Equal(a.Image(), before) || !shade.Marked(a, plan, ref) {
						t.Fatalf("%+v: %d: %v", plan, ref, a.Image())
					}
				}
			}
		}
	}
}

// P8.1: the accesses of a shade, where the ring has room and where it hasn't, for each thread.
func TestShadeAlone(t *testing.T) {
	for _, plan := range plans() {
		slots := uint64(plan.Ring)
		for th := range plan.Threads {
			for _, head := range []uint64{0, 1, slots, 3*slots + 1, 1<<62 - 30, math.MaxUint64} {
				for _, more := range []uint64{0, slots - 1, slots, slots + 1, math.MaxUint64} {
					for _, over := range []uint64{0, 1} {
						checkShade(t, plan, th, head, more, over)
					}
				}
			}
		}
	}
}

func checkShade(t *testing.T, plan layout.Plan, th int, head, more, over uint64) {
	t.Helper()
	a := arenaOf(t, plan)
	tail, page := head+more, plan.Pages-1
	ref, bit, slot := uint64(plan.Addr(page, 63)), uint64(1)<<63, plan.Slot(th, tail)
	a.Poke(plan.Head(th), head)
	a.Poke(plan.Tail(th), tail)
	a.Poke(slot, 5)
	a.Poke(layout.Over, over)
	image := a.Image()
	image[plan.Mark(page)] = bit
	want := []api.Access{or(plan.Mark(page), bit, 0), load(plan.Tail(th), tail), load(plan.Head(th), head)}
	full := more >= uint64(plan.Ring)
	if full {
		want = append(want, store(layout.Over, over, 1))
		image[layout.Over] = 1
	} else {
		want = append(want, store(slot, 5, ref), store(plan.Tail(th), tail, tail+1))
		image[slot], image[plan.Tail(th)] = ref, tail+1
	}
	s := newShade(t, plan, th, ref)
	if l := run(t, a, s); !slices.Equal(l, want) || !s.Fresh() || s.Lost() != full || s.Held() != 0 {
		t.Fatalf("%+v, thread %d, %d + %d: %v, %v, %v, %d", plan, th, head, more, l, s.Fresh(), s.Lost(), s.Held())
	}
	if !slices.Equal(a.Image(), image) {
		t.Fatalf("%+v, thread %d, %d + %d: %v", plan, th, head, more, a.Image())
	}
	again := newShade(t, plan, th, ref)
	if l := run(t, a, again); !slices.Equal(l, []api.Access{or(plan.Mark(page), bit, bit)}) || again.Fresh() || again.Lost() || again.Held() != 0 {
		t.Fatalf("%+v, thread %d: again: %v, %v, %v", plan, th, l, again.Fresh(), again.Lost())
	}
	if !slices.Equal(a.Image(), image) {
		t.Fatalf("%+v, thread %d: again: %v", plan, th, a.Image())
	}
}

// P8.1: what a shade says behind each of its steps.
func TestStepByStep(t *testing.T) {
	plan := layout.Plan{Pages: 1, Threads: 2, Ring: 1}
	a := arenaOf(t, plan)
	p := port(t, a, 0)
	base := uint64(plan.Base())
	for _, known := range []struct {
		ref   uint64
		steps int
		fresh bool
		lost  bool
	}{{base + 3, 5, true, false}, {base + 3, 1, false, false}, {base, 4, true, true}, {base, 1, false, false}, {base + 63, 4, true, true}} {
		s := newShade(t, plan, 1, known.ref)
		if s.Over() || s.Fresh() || s.Lost() || s.Held() != 0 {
			t.Error(known, "ahead of the first step", s.Over(), s.Fresh(), s.Lost(), s.Held())
		}
		for n := 1; n <= known.steps; n++ {
			p.Grant()
			end := n == known.steps
			held := uint64(0)
			if known.fresh && !end {
				held = known.ref
			}
			if s.Step(p) != end || s.Over() != end || s.Fresh() != known.fresh || s.Lost() != (end && known.lost) || s.Held() != held {
				t.Error(known, "behind step", n, s.Over(), s.Fresh(), s.Lost(), s.Held())
			}
		}
	}
	if v, _ := a.Peek(layout.Over); v != 1 {
		t.Error("Over is", v)
	}
	if l, e := ring.Waiting(a, plan, 1); !slices.Equal(l, []uint64{base + 3}) || e != api.OK {
		t.Error(l, e)
	}
}

// P8.1: nothing is to be done for the reference 0.
func TestNothing(t *testing.T) {
	for _, plan := range plans() {
		a := arenaOf(t, plan)
		p := port(t, a, 1)
		p.Grant()
		m, s := newMark(t, plan, 0), newShade(t, plan, 0, 0)
		for range 2 {
			if !m.Over() || !m.Step(p) || m.Fresh() {
				t.Error("Mark", m.Over(), m.Fresh())
			}
			if !s.Over() || !s.Step(p) || s.Fresh() || s.Lost() || s.Held() != 0 {
				t.Error("Shade", s.Over(), s.Fresh(), s.Lost(), s.Held())
			}
		}
		if !p.Open() || a.Count() != 0 || a.Faults() != 0 || shade.Marked(a, plan, 0) {
			t.Error(p.Open(), a.Count(), a.Faults())
		}
	}
}

func TestNil(t *testing.T) {
	var m *shade.Mark
	var s *shade.Shade
	if !m.Over() || !m.Step(nil) || m.Fresh() {
		t.Error("Mark", m.Over(), m.Fresh())
	}
	if !s.Over() || !s.Step(nil) || s.Fresh() || s.Lost() || s.Held() != 0 {
		t.Error("Shade", s.Over(), s.Fresh(), s.Lost(), s.Held())
	}
	m, s = &shade.Mark{}, &shade.Shade{}
	if !m.Step(nil) || m.Fresh() || !s.Step(nil) || s.Fresh() || s.Lost() || s.Held() != 0 {
		t.Error("machines that no call has made", m.Fresh(), s.Fresh(), s.Lost(), s.Held())
	}
}

// P8.1, P8.4: without a grant nothing is done, in each state that a machine may be in.
func TestNoGrant(t *testing.T) {
	plan := layout.Plan{Pages: 1, Threads: 1, Ring: 1}
	for steps := range 5 {
		for _, waits := range []uint64{0, 1} {
			a := arenaOf(t, plan)
			a.Poke(plan.Tail(0), waits)
			p, shut := port(t, a, 0), port(t, a, 0)
			for _, m := range []machine{newMark(t, plan, 65), newShade(t, plan, 0, 66)} {
				for range steps {
					p.Grant()
					m.Step(p)
				}
				over, fresh := m.Over(), m.Fresh()
				before, count, faults := a.Image(), a.Count(), a.Faults()
				for range 3 {
					if m.Step(shut) != over || m.Step(nil) != over || m.Step(&arena.Port{}) != over || m.Over() != over || m.Fresh() != fresh {
						t.Fatal(steps, "a step without a grant did something", m.Over(), m.Fresh())
					}
				}
				if a.Count() != count || a.Faults() != faults || !slices.Equal(a.Image(), before) {
					t.Fatal(steps, a.Count()-count, a.Faults()-faults)
				}
				run(t, a, m)
			}
			if v, _ := a.Peek(layout.Over); v != waits {
				t.Error("Over is", v)
			}
		}
	}
}

// P8.1: a machine that is over makes no access, leaves the grant, and answers as before.
func TestFinished(t *testing.T) {
	plan := layout.Plan{Pages: 1, Threads: 1, Ring: 1}
	a := arenaOf(t, plan)
	first, again, lost := newShade(t, plan, 0, 66), newShade(t, plan, 0, 66), newShade(t, plan, 0, 70)
	fresh, stale := newMark(t, plan, 71), newMark(t, plan, 71)
	machines := []machine{first, again, lost, fresh, stale}
	for _, m := range machines {
		run(t, a, m)
	}
	before, count := a.Image(), a.Count()
	p := port(t, a, 0)
	p.Grant()
	for i, m := range machines {
		if !m.Step(p) || !m.Step(nil) || !m.Over() || !p.Open() {
			t.Error(i, m.Over(), p.Open())
		}
	}
	if a.Count() != count || a.Faults() != 0 || !slices.Equal(a.Image(), before) {
		t.Error(a.Count()-count, a.Faults())
	}
	if !first.Fresh() || first.Lost() || again.Fresh() || again.Lost() || !lost.Fresh() || !lost.Lost() || !fresh.Fresh() || stale.Fresh() {
		t.Error("answers", first.Fresh(), first.Lost(), again.Fresh(), again.Lost(), lost.Fresh(), lost.Lost(), fresh.Fresh(), stale.Fresh())
	}
}

// Marked looks at the cells and makes no access; what isn't there isn't marked.
func TestMarked(t *testing.T) {
	for _, plan := range plans() {
		a := arenaOf(t, plan)
		for page := range plan.Pages {
			a.Poke(plan.Mark(page), 0x8000000000000005<<(page%8))
		}
		for page := range plan.Pages {
			held, _ := a.Peek(plan.Mark(page))
			for word := range api.PageWords {
				if ref := uint64(plan.Addr(page, word)); shade.Marked(a, plan, ref) != (held>>word&1 == 1) {
					t.Fatalf("%+v: Marked(%d)", plan, ref)
				}
			}
		}
		if a.Count() != 0 || a.Faults() != 0 {
			t.Error("Marked makes accesses", a.Count(), a.Faults())
		}
		for page := range plan.Pages {
			a.Poke(plan.Mark(page), math.MaxUint64)
		}
		for _, ref := range append(noRefs(plan), 0) {
			if shade.Marked(a, plan, ref) {
				t.Errorf("%+v: Marked(%d)", plan, ref)
			}
		}
		if shade.Marked(nil, plan, uint64(plan.Base())) {
			t.Errorf("%+v: Marked without an arena", plan)
		}
	}
	// The mark of the first page is there as soon as its cell is, though its heap isn't.
	plan := layout.Plan{Pages: 2, Threads: 1, Ring: 1}
	for cells := 1; cells <= plan.Cells(); cells++ {
		a, _ := arena.New(cells, false)
		a.Poke(plan.Mark(1), 2)
		if shade.Marked(a, plan, uint64(plan.Addr(1, 1))) != (cells > plan.Mark(1)) {
			t.Error(cells, "cells")
		}
	}
}

// Rule 6: cells that an arena hasn't are faults, which tell 0; a machine ends all the same.
func TestSmallArena(t *testing.T) {
	plan := layout.Plan{Pages: 1, Threads: 1, Ring: 1}
	a, _ := arena.New(1, false)
	p := port(t, a, 0)
	s := newShade(t, plan, 0, 66)
	for n := 1; n <= 5; n++ {
		p.Grant()
		if s.Step(p) != (n == 5) || p.Open() {
			t.Error("step", n, s.Over())
		}
	}
	if a.Faults() != 5 || a.Count() != 0 {
		t.Error(a.Faults(), a.Count())
	}
}

// seed makes numbers without a pattern, the same in each run.
type seed uint64

func (s *seed) below(n int) int {
	x := *s
	x ^= x << 13
	x ^= x >> 7
	x ^= x << 17
	*s = x
	return int(uint64(x) % uint64(n))
}

// orders: all ways in which n machines may take turns, so many steps in all.
func orders(n, steps int) func(yield func([]int) bool) {
	return func(yield func([]int) bool) {
		total := 1
		for range steps {
			total *= n
		}
		order := make([]int, steps)
		for k := range total {
			for i := range order {
				order[i] = k % n
				k /= n
			}
			if !yield(order) {
				return
			}
		}
	}
}

// finish steps all machines to their ends: how many were fresh.
func finish(t *testing.T, p *arena.Port, machines []machine) int {
	t.Helper()
	fresh := 0
	for _, m := range machines {
		for n := 0; !m.Over(); n++ {
			if n == 5 {
				t.Fatal("a machine doesn't end")
			}
			p.Grant()
			m.Step(p)
		}
		if m.Fresh() {
			fresh++
		}
	}
	return fresh
}

// P8.2: of three machines that shade one object, one is fresh, in all orders of their first nine steps.
func TestOneIsFresh(t *testing.T) {
	plan := layout.Plan{Pages: 1, Threads: 2, Ring: 1}
	for order := range orders(3, 9) {
		a, _ := arena.New(plan.Cells(), false)
		p := port(t, a, 0)
		ref := uint64(plan.Base() + 9)
		machines := []machine{newShade(t, plan, 0, ref), newShade(t, plan, 1, ref), newMark(t, plan, ref)}
		for _, i := range order {
			p.Grant()
			machines[i].Step(p)
		}
		if n := finish(t, p, machines); n != 1 || !shade.Marked(a, plan, ref) {
			t.Fatal(order, n, "fresh; marked:", shade.Marked(a, plan, ref))
		}
		first := machines[order[0]]
		if !first.Fresh() {
			t.Fatal(order, "the one that came first isn't fresh")
		}
	}
}

// P8.2: many machines at many objects, of one page and of several, some for one thread.
func TestManyShades(t *testing.T) {
	random := seed(2463534242)
	for range 300 {
		plan := layout.Plan{Pages: 1 + random.below(2), Threads: 1 + random.below(6), Ring: 1 + random.below(3)}
		a, _ := arena.New(plan.Cells(), false)
		p := port(t, a, 0)
		byRef := map[uint64][]machine{}
		var all []machine
		for range 24 {
			ref := uint64(plan.Addr(random.below(plan.Pages), random.below(4)))
			m := machine(newShade(t, plan, random.below(plan.Threads), ref))
			byRef[ref] = append(byRef[ref], m)
			all = append(all, m)
		}
		for range 100 {
			p.Grant()
			all[random.below(len(all))].Step(p)
		}
		for ref, machines := range byRef {
			if n := finish(t, p, machines); n != 1 || !shade.Marked(a, plan, ref) {
				t.Fatal(ref, n, "of", len(machines), "are fresh; marked:", shade.Marked(a, plan, ref))
			}
		}
	}
}

// play is threads that shade one object after the other, and one that takes what they have shaded.
type play struct {
	t       *testing.T
	a       *arena.Arena
	plan    layout.Plan
	port    *arena.Port
	shades  []*shade.Shade // of each thread
	refs    []uint64       // what it shades
	pops    []*ring.Pop    // of each ring
	fresh   map[uint64]int
	taken   map[uint64]int
	objects int
}

func begin(t *testing.T, plan layout.Plan, objects int) *play {
	g := &play{t: t, a: arenaOf(t, plan), plan: plan, fresh: map[uint64]int{}, taken: map[uint64]int{}, objects: objects}
	g.port = port(t, g.a, 2)
	g.shades, g.refs, g.pops = make([]*shade.Shade, plan.Threads), make([]uint64, plan.Threads), make([]*ring.Pop, plan.Threads)
	return g
}

// shade lets a thread do its next; the nil machine it begins with is over.
func (g *play) shade(random *seed, th int) {
	g.t.Helper()
	if g.shades[th].Over() {
		g.refs[th] = uint64(g.plan.Addr(random.below(g.plan.Pages), random.below(g.objects)))
		g.shades[th] = newShade(g.t, g.plan, th, g.refs[th])
	}
	was := g.shades[th].Fresh()
	g.port.Grant()
	g.shades[th].Step(g.port)
	if g.shades[th].Fresh() && !was {
		g.fresh[g.refs[th]]++
	}
}

// pop lets the one that takes do its next at a ring.
func (g *play) pop(th int) {
	g.t.Helper()
	if g.pops[th].Over() {
		g.pops[th], _ = ring.NewPop(g.plan, th)
	}
	g.port.Grant()
	if g.pops[th].Step(g.port) && !g.pops[th].Empty() {
		g.taken[g.pops[th].Value()]++
	}
}

// check: each object that was shaded afresh is held, waits, was taken, or Over is 1 (P8.3); once each, as long as no ring was full.
func (g *play) check() {
	g.t.Helper()
	found := map[uint64]int{}
	for th := range g.plan.Threads {
		if held := g.shades[th].Held(); held != 0 {
			found[held] = 1
		}
		words, e := ring.Waiting(g.a, g.plan, th)
		if e != api.OK {
			g.t.Fatal(e)
		}
		for _, ref := range words {
			found[ref]++
		}
	}
	for ref, n := range g.taken {
		found[ref] += n
	}
	over, _ := g.a.Peek(layout.Over)
	for ref, n := range g.fresh {
		if n != 1 || !shade.Marked(g.a, g.plan, ref) {
			g.t.Fatal(ref, n, "times fresh; marked:", shade.Marked(g.a, g.plan, ref))
		}
		if over == 0 && found[ref] != 1 || found[ref] > 1 {
			g.t.Fatal(ref, "is found in", found[ref], "places; Over is", over)
		}
	}
	for ref := range found {
		if g.fresh[ref] != 1 {
			g.t.Fatal(ref, "waits, though nobody shaded it afresh")
		}
	}
}

// P8.3: at every step, whatever the order is; often and seldom taken from.
func TestNothingIsForgotten(t *testing.T) {
	random := seed(88172645463325252)
	lost := 0
	for round := range 400 {
		plan := layout.Plan{Pages: 1, Threads: 1 + random.below(4), Ring: 1 + random.below(4)}
		g := begin(t, plan, 40)
		for range 250 {
			th := random.below(plan.Threads)
			if random.below(4) < 1+round%3 {
				g.pop(th)
			} else {
				g.shade(&random, th)
			}
			g.check()
		}
		over, _ := g.a.Peek(layout.Over)
		lost += int(over)
	}
	if lost < 20 || lost > 380 {
		t.Error("in", lost, "of 400 rounds a ring was full: one of both ways is hardly tried")
	}
}
