package ring_test

import (
	"iter"
	"math"
	"slices"
	"testing"

	"windrow/api"
	"windrow/arena"
	"windrow/layout"
	"windrow/ring"
)

// machine is what both kinds have.
type machine interface {
	Step(p *arena.Port) bool
	Over() bool
}

// arenaOf: an arena of a plan's cells, all 0, that keeps its accesses.
func arenaOf(t *testing.T, plan layout.Plan) *arena.Arena {
	t.Helper()
	a, e := arena.New(plan.Cells(), true)
	if e != api.OK {
		t.Fatalf("%+v: %d", plan, e)
	}
	return a
}

func port(t *testing.T, a *arena.Arena, who int) *arena.Port {
	t.Helper()
	p, e := a.Port(who)
	if e != api.OK {
		t.Fatal(who, e)
	}
	return p
}

func newPush(t *testing.T, plan layout.Plan, th int, v uint64) *ring.Push {
	t.Helper()
	m, e := ring.NewPush(plan, th, v)
	if m == nil || e != api.OK {
		t.Fatalf("NewPush(%+v, %d, %d) = %v, %d", plan, th, v, m, e)
	}
	return m
}

func newPop(t *testing.T, plan layout.Plan, th int) *ring.Pop {
	t.Helper()
	m, e := ring.NewPop(plan, th)
	if m == nil || e != api.OK {
		t.Fatalf("NewPop(%+v, %d) = %v, %d", plan, th, m, e)
	}
	return m
}

// logged: the accesses that an arena has kept, from the n-th on.
func logged(a *arena.Arena, n int) []api.Access {
	var l []api.Access
	for i, x := range a.Log() {
		if i >= n {
			l = append(l, x)
		}
	}
	return l
}

// run steps a machine until it is over: the accesses that it made. Each step must make one.
func run(t *testing.T, a *arena.Arena, m machine) []api.Access {
	t.Helper()
	p := port(t, a, 7)
	first := a.Count()
	for n := first; !m.Over(); n++ {
		if n == first+5 {
			t.Fatal("a fifth access", logged(a, first))
		}
		p.Grant()
		if over := m.Step(p); over != m.Over() {
			t.Fatal("Step says", over)
		}
		if a.Count() != n+1 || p.Open() || a.Faults() != 0 {
			t.Fatal("a step makes one access", a.Count()-n, p.Open(), a.Faults())
		}
	}
	return logged(a, first)
}

func load(at int, v uint64) api.Access {
	return api.Access{Who: 7, Kind: api.AccLoad, At: at, Seen: v, Left: v}
}

func store(at int, seen, v uint64) api.Access {
	return api.Access{Who: 7, Kind: api.AccStore, At: at, Put: v, Seen: seen, Left: v}
}

func waiting(t *testing.T, a *arena.Arena, plan layout.Plan, th int) []uint64 {
	t.Helper()
	l, e := ring.Waiting(a, plan, th)
	if e != api.OK {
		t.Fatalf("Waiting(%+v, %d): %d", plan, th, e)
	}
	return l
}

// plans: some that are valid, the smallest and the greatest among them.
func plans() []layout.Plan {
	return []layout.Plan{{Pages: 1, Threads: 1, Ring: 1}, {Pages: 2, Threads: 1, Ring: 4}, {Pages: 3, Threads: 2, Ring: 3}, {Pages: 1, Threads: 6, Ring: 7}, {Pages: 32, Threads: 6, Ring: 16}}
}

// noThreads: plans and numbers of threads that they haven't.
func noThreads(yield func(layout.Plan, int) bool) {
	for _, plan := range plans() {
		for _, th := range []int{math.MinInt, -1 << 32, -1, plan.Threads, plan.Threads + 1, 6, 1 << 32, math.MaxInt} {
			if !yield(plan, th) {
				return
			}
		}
	}
	for _, n := range []int{math.MinInt, -1, 0, 33, 1 << 32, math.MaxInt} {
		for _, plan := range []layout.Plan{{Pages: n, Threads: 1, Ring: 1}, {Pages: 1, Threads: n, Ring: 1}, {Pages: 1, Threads: 1, Ring: n}, {Pages: n, Threads: n, Ring: n}} {
			if !yield(plan, 0) {
				return
			}
		}
	}
	_ = yield(layout.Plan{}, 0) && yield(layout.Plan{Pages: 1, Threads: 7, Ring: 1}, 6) && yield(layout.Plan{Pages: 1, Threads: 1, Ring: 17}, 0)
}

func TestExample(t *testing.T) {
	plan := layout.Plan{Pages: 1, Threads: 1, Ring: 1}
	a := arenaOf(t, plan)
	head, tail, slot := 19, 20, 21
	put := newPush(t, plan, 0, 7)
	if l := run(t, a, put); !slices.Equal(l, []api.Access{load(tail, 0), load(head, 0), store(slot, 0, 7), store(tail, 0, 1)}) || put.Full() {
		t.Error("the first push", l, put.Full())
	}
	if v, _ := a.Peek(plan.Tail(0)); v != 1 || plan.Tail(0) != tail {
		t.Error("Tail is", v)
	}
	put = newPush(t, plan, 0, 8)
	if l := run(t, a, put); !slices.Equal(l, []api.Access{load(tail, 1), load(head, 0)}) || !put.Full() {
		t.Error("the second push", l, put.Full())
	}
	take := newPop(t, plan, 0)
	if l := run(t, a, take); !slices.Equal(l, []api.Access{load(head, 0), load(tail, 1), load(slot, 7), store(head, 0, 1)}) || take.Empty() || take.Value() != 7 {
		t.Error("the first pop", l, take.Empty(), take.Value())
	}
	if v, _ := a.Peek(plan.Head(0)); v != 1 || plan.Head(0) != head {
		t.Error("Head is", v)
	}
	take = newPop(t, plan, 0)
	if l := run(t, a, take); !slices.Equal(l, []api.Access{load(head, 1), load(tail, 1)}) || !take.Empty() || take.Value() != 0 {
		t.Error("the second pop", l, take.Empty(), take.Value())
	}
}

func TestErrors(t *testing.T) {
	for plan, th := range noThreads {
		if m, e := ring.NewPush(plan, th, 7); m != nil || e != api.ErrArg {
			t.Errorf("NewPush(%+v, %d, 7) = %v, %d", plan, th, m, e)
		}
		if m, e := ring.NewPop(plan, th); m != nil || e != api.ErrArg {
			t.Errorf("NewPop(%+v, %d) = %v, %d", plan, th, m, e)
		}
		// What is wrong with the plan comes before what is wrong with the arena.
		if l, e := ring.Waiting(nil, plan, th); len(l) != 0 || e != api.ErrArg {
			t.Errorf("Waiting(nil, %+v, %d) = %v, %d", plan, th, l, e)
		}
		if l, e := ring.Waiting(arenaOf(t, plans()[4]), plan, th); len(l) != 0 || e != api.ErrArg {
			t.Errorf("Waiting(%+v, %d) = %v, %d", plan, th, l, e)
		}
	}
	for _, plan := range plans() {
		for th := range plan.Threads {
			if m, e := ring.NewPush(plan, th, 0); m != nil || e != api.ErrArg {
				t.Errorf("NewPush(%+v, %d, 0) = %v, %d", plan, th, m, e)
			}
			newPush(t, plan, th, 1)
			newPush(t, plan, th, math.MaxUint64)
			newPop(t, plan, th)
		}
	}
}

// counts: Heads of rings with so many slots, and how many words wait: the edges of room, and what a correct program never has.
func counts(slots int) [][2]uint64 {
	var l [][2]uint64
	n := uint64(slots)
	for _, head := range []uint64{0, 1, n - 1, n, n + 1, 5*n + 2, 1<<32 + 1, 1<<62 - 1, 1 << 63, math.MaxUint64 - n, math.MaxUint64 - 1, math.MaxUint64} {
		for _, more := range []uint64{0, 1, n - 1, n, n + 1, 2 * n, 1 << 63, math.MaxUint64 - 1, math.MaxUint64} {
			l = append(l, [2]uint64{head, more})
		}
	}
	return l
}

// fill lays a thread's ring so that head words have been taken and more wait; its slots hold 100 and on.
func fill(a *arena.Arena, plan layout.Plan, th int, head, more uint64) {
	a.Poke(plan.Head(th), head)
	a.Poke(plan.Tail(th), head+more)
	for n := range plan.Ring {
		a.Poke(plan.Slot(th, uint64(n)), uint64(100+n))
	}
}

// P7.1: the accesses and the answers of each machine alone, whatever the counts are.
func TestPushAlone(t *testing.T) {
	for _, plan := range plans() {
		for th := range plan.Threads {
			for _, c := range counts(plan.Ring) {
				head, tail := c[0], c[0]+c[1]
				a := arenaOf(t, plan)
				fill(a, plan, th, head, c[1])
				before := a.Image()
				want := []api.Access{load(plan.Tail(th), tail), load(plan.Head(th), head)}
				full := c[1] >= uint64(plan.Ring)
				if !full {
					n := tail % uint64(plan.Ring)
					want = append(want, store(plan.Slot(th, n), 100+n, 42), store(plan.Tail(th), tail, tail+1))
					before[plan.Slot(th, n)], before[plan.Tail(th)] = 42, tail+1
				}
				m := newPush(t, plan, th, 42)
				if l := run(t, a, m); !slices.Equal(l, want) || m.Full() != full {
					t.Fatalf("%+v, thread %d, counts %v: %v, full: %v", plan, th, c, l, m.Full())
				}
				if !slices.Equal(a.Image(), before) {
					t.Fatalf("%+v, thread %d, counts %v: %v", plan, th, c, a.Image())
				}
			}
		}
	}
}

func TestPopAlone(t *testing.T) {
	for _, plan := range plans() {
		for th := range plan.Threads {
			for _, c := range counts(plan.Ring) {
				head, tail := c[0], c[0]+c[1]
				a := arenaOf(t, plan)
				fill(a, plan, th, head, c[1])
				before := a.Image()
				want := []api.Access{load(plan.Head(th), head), load(plan.Tail(th), tail)}
				n, value := head%uint64(plan.Ring), uint64(0)
				if c[1] != 0 {
					value = 100 + n
					want = append(want, load(plan.Slot(th, n), value), store(plan.Head(th), head, head+1))
					before[plan.Head(th)] = head + 1
				}
				m := newPop(t, plan, th)
				if l := run(t, a, m); !slices.Equal(l, want) || m.Empty() != (c[1] == 0) || m.Value() != value {
					t.Fatalf("%+v, thread %d, counts %v: %v, %v, %d", plan, th, c, l, m.Empty(), m.Value())
				}
				if !slices.Equal(a.Image(), before) {
					t.Fatalf("%+v, thread %d, counts %v: %v", plan, th, c, a.Image())
				}
			}
		}
	}
}

// P7.1: nothing is said of the end before it.
func TestUntilTheEnd(t *testing.T) {
	plan := layout.Plan{Pages: 1, Threads: 1, Ring: 2}
	a := arenaOf(t, plan)
	p := port(t, a, 0)
	put, take := newPush(t, plan, 0, 9), newPop(t, plan, 0)
	for _, over := range []bool{false, false, false, true} {
		if put.Over() || put.Full() {
			t.Error("a push ahead of its end", put.Over(), put.Full())
		}
		p.Grant()
		if put.Step(p) != over {
			t.Error("the step of a push doesn't say", over)
		}
	}
	for _, over := range []bool{false, false, false, true} {
		if take.Over() || take.Empty() || take.Value() != 0 {
			t.Error("a pop ahead of its end", take.Over(), take.Empty(), take.Value())
		}
		p.Grant()
		if take.Step(p) != over {
			t.Error("the step of a pop doesn't say", over)
		}
	}
	if !put.Over() || put.Full() || !take.Over() || take.Empty() || take.Value() != 9 {
		t.Error(put.Full(), take.Empty(), take.Value())
	}
}

// P7.1, P7.3: without a grant nothing is done, in each state that a machine may be in.
func TestNoGrant(t *testing.T) {
	plan := layout.Plan{Pages: 1, Threads: 2, Ring: 2}
	for steps := range 4 {
		a := arenaOf(t, plan)
		fill(a, plan, 1, 3, 1)
		p, shut := port(t, a, 0), port(t, a, 0)
		for _, m := range []machine{newPush(t, plan, 1, 9), newPop(t, plan, 1)} {
			for range steps {
				p.Grant()
				m.Step(p)
			}
			before, count := a.Image(), a.Count()
			for range 3 {
				if m.Step(shut) || m.Step(nil) || m.Step(&arena.Port{}) || m.Over() {
					t.Fatal(steps, "a step without a grant says that it is over")
				}
			}
			if a.Count() != count || a.Faults() != 0 || !slices.Equal(a.Image(), before) {
				t.Fatal(steps, a.Count()-count, a.Faults())
			}
			run(t, a, m)
		}
		if v, _ := a.Peek(plan.Tail(1)); v != 5 {
			t.Error("Tail is", v)
		}
		if v, _ := a.Peek(plan.Head(1)); v != 4 {
			t.Error("Head is", v)
		}
	}
}

// P7.1: a machine that is over makes no access, leaves the grant, and answers as before.
func TestFinished(t *testing.T) {
	plan := layout.Plan{Pages: 1, Threads: 1, Ring: 1}
	a := arenaOf(t, plan)
	put, full, take, none := newPush(t, plan, 0, 9), newPush(t, plan, 0, 8), newPop(t, plan, 0), newPop(t, plan, 0)
	machines := []machine{put, full, take, none}
	for _, m := range machines {
		run(t, a, m)
	}
	machines = append(machines, (*ring.Push)(nil), (*ring.Pop)(nil), &ring.Push{}, &ring.Pop{})
	before, count := a.Image(), a.Count()
	p := port(t, a, 0)
	for i, m := range machines {
		if !m.Step(p) || !m.Step(nil) || !m.Over() {
			t.Error(i, "without a grant it isn't over")
		}
		p.Grant()
		if !m.Step(p) || !p.Open() {
			t.Error(i, "the grant is gone, or it isn't over", p.Open())
		}
		p.Load(-1)
	}
	if a.Count() != count || a.Faults() != len(machines) || !slices.Equal(a.Image(), before) {
		t.Error(a.Count()-count, a.Faults())
	}
	if put.Full() || !full.Full() || take.Empty() || take.Value() != 9 || !none.Empty() || none.Value() != 0 {
		t.Error(put.Full(), full.Full(), take.Empty(), take.Value(), none.Empty(), none.Value())
	}
}

func TestNil(t *testing.T) {
	var put *ring.Push
	var take *ring.Pop
	if !put.Over() || !put.Step(nil) || put.Full() {
		t.Error("Push", put.Over(), put.Full())
	}
	if !take.Over() || !take.Step(nil) || take.Empty() || take.Value() != 0 {
		t.Error("Pop", take.Over(), take.Empty(), take.Value())
	}
}

// Rule 6: cells that an arena hasn't are faults, which tell 0; a machine ends all the same.
func TestSmallArena(t *testing.T) {
	plan := layout.Plan{Pages: 1, Threads: 1, Ring: 1}
	a, _ := arena.New(1, false)
	p := port(t, a, 0)
	put, take := newPush(t, plan, 0, 9), newPop(t, plan, 0)
	for _, over := range []bool{false, false, false, true} {
		p.Grant()
		if put.Step(p) != over {
			t.Error("Push: not", over)
		}
	}
	for _, over := range []bool{false, true} {
		p.Grant()
		if take.Step(p) != over {
			t.Error("Pop: not", over)
		}
	}
	if put.Full() || !take.Empty() || a.Faults() != 6 || a.Count() != 0 {
		t.Error(put.Full(), take.Empty(), a.Faults(), a.Count())
	}
}

// P7.1: the words in the ring, the oldest first, and ErrForm where the counts say that there are more than slots.
func TestWaiting(t *testing.T) {
	for _, plan := range plans() {
		for th := range plan.Threads {
			for _, c := range counts(plan.Ring) {
				a := arenaOf(t, plan)
				fill(a, plan, th, c[0], c[1])
				before := a.Image()
				got, e := ring.Waiting(a, plan, th)
				if c[1] > uint64(plan.Ring) {
					if len(got) != 0 || e != api.ErrForm {
						t.Fatalf("%+v, thread %d, counts %v: %v, %d", plan, th, c, got, e)
					}
					continue
				}
				var want []uint64
				for i := range c[1] {
					want = append(want, 100+(c[0]+i)%uint64(plan.Ring))
				}
				if !slices.Equal(got, want) || e != api.OK {
					t.Fatalf("%+v, thread %d, counts %v: %v, not %v, %d", plan, th, c, got, want, e)
				}
				if a.Count() != 0 || a.Faults() != 0 || !slices.Equal(a.Image(), before) {
					t.Fatal("to look at the cells is no access", a.Count(), a.Faults())
				}
			}
		}
	}
}

func TestWaitingWithoutCells(t *testing.T) {
	plan := layout.Plan{Pages: 1, Threads: 2, Ring: 3}
	if l, e := ring.Waiting(nil, plan, 1); len(l) != 0 || e != api.ErrNil {
		t.Error("no arena", l, e)
	}
	for cells := 1; cells <= plan.Cells(); cells++ {
		a, _ := arena.New(cells, false)
		want := api.OK
		if cells <= plan.Tail(1) {
			want = api.ErrAddr
		}
		if l, e := ring.Waiting(a, plan, 1); len(l) != 0 || e != want {
			t.Error("an empty ring", cells, l, e)
		}
		fill(a, plan, 1, 0, 3)
		if cells <= plan.Slot(1, 2) {
			want = api.ErrAddr
		}
		if l, e := ring.Waiting(a, plan, 1); e != want || want != api.OK && len(l) != 0 || want == api.OK && !slices.Equal(l, []uint64{100, 101, 102}) {
			t.Error("a full ring", cells, l, e)
		}
	}
}

// Rule 4: a list of words is new memory.
func TestWaitingIsNewMemory(t *testing.T) {
	plan := layout.Plan{Pages: 1, Threads: 1, Ring: 4}
	a := arenaOf(t, plan)
	fill(a, plan, 0, 3, 2)
	first, second := waiting(t, a, plan, 0), waiting(t, a, plan, 0)
	first[0] = 1
	_ = append(first[:0], 2, 3)
	if !slices.Equal(second, []uint64{103, 100}) || !slices.Equal(waiting(t, a, plan, 0), second) {
		t.Error(second, waiting(t, a, plan, 0))
	}
}

// seed makes numbers without a pattern, the same in each run.
type seed uint64

func (s *seed) below(n int) int {
	x := *s
	x ^= x << 13
	x ^= x >> 7
	x ^= x << 17
	*s = x
	return int(uint64(x) % uint64(n))
}

// The chapter's words as they stand, each access followed by a pause: what machines are held against. cells is shared by all; a pause says whether that was the end.
func pushing(cells []uint64, plan layout.Plan, th int, v uint64, full *bool) iter.Seq[bool] {
	return func(pause func(bool) bool) {
		tail := cells[plan.Tail(th)]
		if !pause(false) {
			return
		}
		head := cells[plan.Head(th)]
		if tail-head >= uint64(plan.Ring) {
			*full = true
			pause(true)
			return
		}
		if !pause(false) {
			return
		}
		cells[plan.Slot(th, tail)] = v
		if !pause(false) {
			return
		}
		cells[plan.Tail(th)] = tail + 1
		pause(true)
	}
}

func popping(cells []uint64, plan layout.Plan, th int, empty *bool, value *uint64) iter.Seq[bool] {
	return func(pause func(bool) bool) {
		head := cells[plan.Head(th)]
		if !pause(false) {
			return
		}
		if tail := cells[plan.Tail(th)]; head == tail {
			*empty = true
			pause(true)
			return
		}
		if !pause(false) {
			return
		}
		word := cells[plan.Slot(th, head)]
		if !pause(false) {
			return
		}
		cells[plan.Head(th)] = head + 1
		*value = word
		pause(true)
	}
}

// pair is a machine and its model.
type pair struct {
	m     machine
	port  *arena.Port
	next  func() (bool, bool)
	stop  func()
	over  bool
	flag  bool // it was full, or empty
	value uint64
}

// begin makes a machine at one of the rings, and its model.
func begin(t *testing.T, s *seed, a *arena.Arena, plan layout.Plan, cells []uint64) *pair {
	th, p := s.below(plan.Threads), &pair{port: port(t, a, s.below(16))}
	if s.below(2) == 0 {
		v := uint64(1 + s.below(1000))
		p.m = newPush(t, plan, th, v)
		p.next, p.stop = iter.Pull(pushing(cells, plan, th, v, &p.flag))
	} else {
		p.m = newPop(t, plan, th)
		p.next, p.stop = iter.Pull(popping(cells, plan, th, &p.flag, &p.value))
	}
	return p
}

// step lets both do their next, and holds their answers against each other.
func (p *pair) step(t *testing.T) {
	t.Helper()
	if !p.over {
		p.over, _ = p.next()
	}
	p.port.Grant()
	if p.m.Step(p.port) != p.over || p.m.Over() != p.over {
		t.Fatal("over?", p.m.Over(), p.over)
	}
	switch m := p.m.(type) {
	case *ring.Push:
		if m.Full() != p.flag {
			t.Fatal("full?", m.Full())
		}
	case *ring.Pop:
		if m.Empty() != p.flag || m.Value() != p.value {
			t.Fatal("empty?", m.Empty(), p.flag, m.Value(), p.value)
		}
	}
}

// P7.1: many machines on several rings, several at one ring too, in many orders, against the chapter's words.
func TestManyMachines(t *testing.T) {
	s := seed(88172645463325252)
	for round := range 300 {
		plan := layout.Plan{Pages: 1, Threads: 1 + s.below(3), Ring: 1 + s.below(4)}
		a := arenaOf(t, plan)
		for th := range plan.Threads {
			head := uint64(s.below(50))
			if round%4 == 0 {
				head = -head
			}
			fill(a, plan, th, head, uint64(s.below(plan.Ring+1)))
		}
		cells := a.Image()
		pairs := make([]*pair, 2+s.below(4))
		for range 200 {
			i := s.below(len(pairs))
			if pairs[i] == nil || pairs[i].over && s.below(3) != 0 {
				if pairs[i] != nil {
					pairs[i].stop()
				}
				pairs[i] = begin(t, &s, a, plan, cells)
			}
			pairs[i].step(t)
			if !slices.Equal(a.Image(), cells) || a.Faults() != 0 {
				t.Fatal(round, a.Image(), cells, a.Faults())
			}
		}
		for _, p := range pairs {
			if p != nil {
				p.stop()
			}
		}
	}
}

// sides is one ring with one machine that puts and one that takes, and what should come of it.
type sides struct {
	t            *testing.T
	a            *arena.Arena
	plan         layout.Plan
	port         *arena.Port
	put          *ring.Push
	take         *ring.Pop
	value        uint64   // of the machine that puts
	waits        []uint64 // put, and not yet taken
	puts, misses int      // pushes that ended, and how many of them had no room
	took         int
}

func both(t *testing.T, slots int, head uint64) *sides {
	plan := layout.Plan{Pages: 1, Threads: 2, Ring: slots}
	s := &sides{t: t, a: arenaOf(t, plan), plan: plan, value: 1}
	s.a.Poke(plan.Head(1), head)
	s.a.Poke(plan.Tail(1), head)
	s.port = port(t, s.a, 3)
	s.put, s.take = newPush(t, plan, 1, 1), newPop(t, plan, 1)
	return s
}

// stepPut lets the machine that puts do its next; the next one puts the next number.
func (s *sides) stepPut() {
	s.t.Helper()
	s.port.Grant()
	if s.put.Step(s.port) {
		s.puts++
		if s.put.Full() {
			s.misses++
		} else {
			s.waits = append(s.waits, s.value)
		}
		s.value++
		s.put = newPush(s.t, s.plan, 1, s.value)
	}
	s.check()
}

// stepTake lets the machine that takes do its next: what it takes must be the oldest that waits.
func (s *sides) stepTake() {
	s.t.Helper()
	s.port.Grant()
	if s.take.Step(s.port) {
		if !s.take.Empty() {
			if len(s.waits) == 0 || s.take.Value() != s.waits[0] {
				s.t.Fatalf("took %d of %v", s.take.Value(), s.waits)
			}
			s.waits = s.waits[1:]
			s.took++
		}
		s.take = newPop(s.t, s.plan, 1)
	}
	s.check()
}

// check: the ring has what was put and not taken, in this order, and no more than its slots.
func (s *sides) check() {
	s.t.Helper()
	if got := waiting(s.t, s.a, s.plan, 1); !slices.Equal(got, s.waits) || len(got) > s.plan.Ring {
		s.t.Fatalf("%d slots: %v wait, not %v", s.plan.Ring, got, s.waits)
	}
}

// drain takes all that is left: nothing that was put is lost.
func (s *sides) drain() {
	s.t.Helper()
	for range 4 * (s.plan.Ring + 2) {
		s.stepTake()
	}
	if len(s.waits) != 0 || s.took != s.puts-s.misses {
		s.t.Fatalf("%v still wait; of %d put, %d had no room and %d were taken", s.waits, s.puts, s.misses, s.took)
	}
}

// P7.2: all orders of twelve steps of one that puts and one that takes.
func TestAllOrders(t *testing.T) {
	for slots := 1; slots <= 3; slots++ {
		for order := range 1 << 12 {
			s := both(t, slots, 5)
			for i := range 12 {
				if order>>i&1 == 0 {
					s.stepPut()
				} else {
					s.stepTake()
				}
			}
			s.drain()
		}
	}
}

// P7.2: long runs, in which either side is ahead for some time; up to counts below 2^62.
func TestLongRuns(t *testing.T) {
	random := seed(2463534242)
	for slots := 1; slots <= api.MaxRing; slots++ {
		for _, head := range []uint64{0, 1<<32 - 20, 1<<62 - 4000} {
			s := both(t, slots, head)
			for i := range 6000 {
				ahead := 1 + 2*(i/500%2)
				if random.below(4) < ahead {
					s.stepPut()
				} else {
					s.stepTake()
				}
			}
			if s.misses == 0 || s.took < 100 {
				t.Error("the ring was never full, or hardly used", slots, s.misses, s.took)
			}
			s.drain()
		}
	}
}
