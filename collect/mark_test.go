package collect_test

import (
	"slices"
	"testing"

	"windrow/api"
	"windrow/collect"
	"windrow/header"
	"windrow/layout"
	"windrow/mutator"
)

// thing is an object that was made by hand.
type thing struct {
	at   int64
	h    header.Head
	refs []int // its words that are references
}

// make lays some objects, of all kinds and sizes, each word of which refers to another one, or to nothing.
func (b *bench) make(s *seed, n int) []thing {
	var l []thing
	for range n {
		x := thing{h: header.Head{Kind: api.Fields, Len: 3}, refs: []int{0, 2}}
		switch s.below(8) {
		case 0:
			x = thing{h: header.Head{Kind: api.Fields, Class: 1, Len: 1}}
		case 1:
			x = thing{h: header.Head{Kind: api.Ints, Len: s.below(12)}}
		case 2, 3:
			x = thing{h: header.Head{Kind: api.Refs, Len: s.below(9)}}
			if s.below(5) == 0 {
				x.h.Len = 20 + s.below(50)
			}
			for i := range x.h.Len {
				x.refs = append(x.refs, i)
			}
		}
		if x.at = b.lay(x.h); x.at > 0 {
			l = append(l, x)
		}
	}
	for _, x := range l {
		for i := range x.h.Len {
			b.set(x.at, i, l[s.below(len(l))].at) // a number may look like a reference
		}
		for _, i := range x.refs {
			if s.below(3) == 0 {
				b.set(x.at, i, 0)
			}
		}
	}
	return l
}

// reach: which of some objects can be reached from these addresses.
func (b *bench) reach(l []thing, from []int64) []bool {
	reached := make([]bool, len(l))
	for len(from) > 0 {
		at := from[0]
		from = from[1:]
		i := slices.IndexFunc(l, func(x thing) bool { return x.at == at })
		if i < 0 || reached[i] {
			continue
		}
		reached[i] = true
		for _, k := range l[i].refs {
			from = append(from, int64(b.peek(int(at)+1+k)))
		}
	}
	return reached
}

// entries are where the references come from with which marking begins: globals, frames of a thread that waits, rings, and marks of objects that had no room in a ring.
func (b *bench) entries(s *seed, l []thing) []int64 {
	var all []int64
	any := func() int64 {
		at := l[s.below(len(l))].at
		all = append(all, at)
		return at
	}
	for i := range api.Globals {
		if s.below(6) == 0 {
			b.poke(b.plan.Global(i), uint64(any()))
		}
	}
	for n := range b.plan.Threads {
		b.poke(b.plan.Status(n), []uint64{mutator.Runs, mutator.Parked, mutator.Gone}[s.below(3)])
		b.subjects[n] = &subject{}
		if b.peek(b.plan.Status(n)) == mutator.Parked {
			for range s.below(4) {
				b.subjects[n].roots = append(b.subjects[n].roots, any(), 0)
			}
		}
		count := uint64(s.below(50))
		b.poke(b.plan.Head(n), count)
		b.poke(b.plan.Tail(n), count)
		for range s.below(b.plan.Ring + 1) {
			at := any()
			b.mark(at)
			b.put(n, at)
		}
	}
	b.poke(layout.Count, uint64(b.plan.Threads))
	if s.below(3) == 0 {
		b.poke(layout.Over, 1)
		for range s.below(3) {
			b.mark(any())
		}
	}
	return all
}

// P20.2, P20.3, and what a cycle is for: what can be reached is marked, whatever room there is on the stack; all else is freed.
func TestMarking(t *testing.T) {
	s := seed(207)
	kept, freed, again := 0, 0, 0
	for range 400 {
		b := benched(t, planned(t, 1+s.below(6), 1+s.below(4), 1+s.below(4)), []int{1, 1, 2, 3, 64}[s.below(5)])
		l := b.make(&s, 5+s.below(60))
		reached := b.reach(l, b.entries(&s, l))
		b.poke(layout.Request, 1)
		b.upTo(collect.Marking)
		for b.c.Phase() != collect.Quieting {
			over := b.peek(layout.Over)
			b.step()
			if over == 1 && b.peek(layout.Over) == 0 {
				again++
			}
			for _, at := range slices.Concat(b.c.Stack(), b.c.Flight()) {
				if !b.allocated(at) || slices.Contains(b.c.Stack(), at) && !b.marked(at) {
					t.Fatalf("%d is held", at)
				}
			}
		}
		if len(b.c.Stack()) != 0 || len(b.c.Flight()) != 0 || b.peek(layout.Over) != 0 {
			t.Fatal(b.c.Stack(), b.c.Flight())
		}
		for i, x := range l {
			if b.marked(x.at) != reached[i] {
				t.Fatalf("%+v: marked %v, reached %v", x, b.marked(x.at), reached[i])
			}
		}
		b.upTo(collect.Idle)
		lost := 0
		for i, x := range l {
			if b.allocated(x.at) != reached[i] || b.marked(x.at) {
				t.Fatalf("%+v: allocated %v, reached %v", x, b.allocated(x.at), reached[i])
			}
			if reached[i] {
				kept++
			} else {
				lost++
			}
		}
		if freed += lost; b.c.Freed() != lost {
			t.Fatal(b.c.Freed(), lost)
		}
	}
	if kept < 1000 || freed < 1000 || again < 100 {
		t.Error("hardly tried", kept, freed, again)
	}
}

// What the collector marks first goes onto its stack, as long as there is room; what it marks, examines and is to mark is in flight.
func TestStack(t *testing.T) {
	for marks := 1; marks <= 6; marks++ {
		b := benched(t, planned(t, 2, 2, 1), marks)
		var made []int64
		for range 12 {
			made = append(made, b.lay(header.Head{Kind: api.Ints, Len: 1}))
		}
		for i := range 4 {
			b.poke(b.plan.Global(2*i), uint64(made[i]))
		}
		b.poke(b.plan.Global(7), uint64(made[0]))
		b.poke(layout.Count, 2)
		b.poke(b.plan.Status(0), mutator.Gone)
		b.poke(b.plan.Status(1), mutator.Parked)
		b.subjects[1] = &subject{roots: []int64{made[4], made[5], made[4]}}
		b.poke(layout.Request, 1)
		b.upTo(collect.Scanning)
		scanned := false
		for b.c.Phase() == collect.Scanning {
			b.step()
			flight := b.c.Flight()
			scanned = scanned || slices.Equal(slices.Sorted(slices.Values(flight)), []int64{made[4], made[4], made[5]})
			if b.peek(b.plan.Status(1)) == mutator.Served && len(b.subjects[1].served) == 1 {
				for _, at := range made[4:6] {
					if !slices.Contains(flight, at) && !b.marked(at) && scanned {
						t.Error(at, "is lost", flight)
					}
				}
			}
		}
		want := made[4:6]
		if marks == 1 {
			want = made[4:5]
		}
		if !scanned || !slices.Equal(b.c.Stack(), want) || len(b.c.Flight()) != 0 || b.peek(layout.Over) != uint64(max(0, 2-marks)) {
			t.Error(scanned, b.c.Stack(), b.c.Flight(), b.peek(layout.Over))
		}
		b.upTo(collect.Blending)
		want = []int64{made[4], made[5], made[0], made[1], made[2], made[3]}[:marks]
		full := uint64(1)
		if marks == 6 {
			full = 0
		}
		if !slices.Equal(b.c.Stack(), want) || b.peek(layout.Over) != full {
			t.Error(b.c.Stack(), want, b.peek(layout.Over))
		}
		b.c.Stack()[0] = 1
		if b.c.Stack()[0] != made[4] {
			t.Error("the stack is shared")
		}
		b.upTo(collect.Idle)
		if b.c.Freed() != 6 || len(b.c.Stack()) != 0 {
			t.Error(b.c.Freed(), b.c.Stack())
		}
	}
}

// While an object is examined, it and what it refers to is on the stack, in flight or marked.
func TestExamining(t *testing.T) {
	b := benched(t, planned(t, 2, 1, 1), 3)
	a, c, d := b.lay(header.Head{Kind: api.Refs, Len: 4}), b.lay(header.Head{Kind: api.Ints}), b.lay(header.Head{Kind: api.Ints})
	b.set(a, 0, c)
	b.set(a, 3, d)
	b.poke(b.plan.Global(0), uint64(a))
	b.poke(layout.Request, 1)
	b.upTo(collect.Marking)
	seen := map[int64]bool{}
	for b.c.Phase() == collect.Marking {
		for _, at := range b.c.Flight() {
			seen[at] = true
		}
		if !(b.marked(c) && b.marked(d)) && !slices.Contains(slices.Concat(b.c.Stack(), b.c.Flight()), a) {
			t.Error("it is neither on the stack nor in flight", b.c.Stack(), b.c.Flight())
		}
		b.step()
	}
	if !seen[a] || !seen[c] || !seen[d] || len(b.c.Flight()) != 0 {
		t.Error(seen, b.c.Flight())
	}
}

// Where Over is 1 all marked objects are examined again; those of a page are in flight until then.
func TestAgain(t *testing.T) {
	b := benched(t, planned(t, 2, 1, 1), 1)
	var made []int64
	for range 5 {
		made = append(made, b.lay(header.Head{Kind: api.Refs, Len: 2}))
	}
	free := made[4]
	b.set(made[0], 1, made[1])
	b.set(made[2], 0, made[3])
	b.mark(made[0])
	b.mark(made[2])
	page, word := b.plan.Place(int(free))
	// A mark of what isn't allocated means nothing.
	b.mark(free)
	b.poke(b.plan.Alloc(page), b.peek(b.plan.Alloc(page))&^(1<<word))
	b.set(free, 0, b.lay(header.Head{Kind: api.Refs, Len: 20}))
	b.poke(layout.Over, 1)
	b.poke(layout.Request, 1)
	b.upTo(collect.Marking)
	held := false
	for b.c.Phase() == collect.Marking {
		b.step()
		held = held || slices.Contains(b.c.Flight(), made[0]) && slices.Contains(b.c.Flight(), made[2])
		if slices.Contains(b.c.Flight(), free) {
			t.Error("what isn't allocated is examined")
		}
	}
	if !held || !b.marked(made[1]) || !b.marked(made[3]) {
		t.Error(held, b.marked(made[1]), b.marked(made[3]))
	}
	b.upTo(collect.Idle)
	if b.c.Freed() != 1 {
		t.Error(b.c.Freed())
	}
}

// checks counts the handshakes Check until Quieting.
func (b *bench) checks(found func(n int)) int {
	b.Helper()
	n, epoch := 0, b.peek(layout.Epoch)
	for range most {
		if b.c.Phase() == collect.Quieting {
			return n
		}
		b.step()
		if e := b.peek(layout.Epoch); e != epoch {
			epoch = e
			if e%8 == mutator.Check {
				n++
				found(n)
			}
		}
	}
	b.Fatal("it doesn't end")
	return 0
}

// What threads have shaded until they respond to Check is examined, and then they are asked again.
func TestChecking(t *testing.T) {
	for times := range 4 {
		for _, how := range []string{"ring", "over"} {
			b := benched(t, planned(t, 2, 3, 1), 1)
			for n := range 3 {
				b.poke(b.plan.Status(n), mutator.Runs)
			}
			b.poke(layout.Count, 3)
			var made []int64
			for range 8 {
				made = append(made, b.lay(header.Head{Kind: api.Refs, Len: 1}))
			}
			for n := range 3 {
				b.set(made[n], 0, made[n+4])
			}
			b.poke(layout.Request, 1)
			b.upTo(collect.Marking)
			got := b.checks(func(n int) {
				if n > times {
					return
				}
				b.mark(made[n-1])
				if how == "ring" {
					b.put((n+1)%3, made[n-1])
				} else {
					b.poke(layout.Over, 1)
				}
			})
			if got != times+1 {
				t.Errorf("%s: %d handshakes, not %d", how, got, times+1)
			}
			for n := range times {
				if !b.marked(made[n+4]) {
					t.Errorf("%s: what object %d refers to isn't marked", how, n)
				}
			}
			b.upTo(collect.Idle)
			if b.c.Freed() != 8-2*times {
				t.Error(how, b.c.Freed())
			}
		}
	}
}

// What is shaded while it is marking is taken from the rings before the threads are asked.
func TestRings(t *testing.T) {
	b := benched(t, planned(t, 3, 6, 3), 1)
	b.poke(layout.Count, 6)
	var made []int64
	for n := range 6 {
		b.poke(b.plan.Status(n), mutator.Runs)
		for range 3 {
			at := b.lay(header.Head{Kind: api.Refs, Len: 1})
			b.set(at, 0, b.lay(header.Head{Kind: api.Refs, Len: 1}))
			b.mark(at)
			b.put(n, at)
			made = append(made, at)
		}
	}
	lost := b.lay(header.Head{Kind: api.Refs, Len: 1})
	b.poke(layout.Request, 1)
	b.upTo(collect.Checking)
	for _, at := range made {
		if ref := int64(b.peek(int(at) + 1)); !b.marked(at) || !b.marked(ref) {
			t.Error(at, "or", ref, "isn't marked")
		}
	}
	for n := range 6 {
		if b.peek(b.plan.Head(n)) != 3 || b.peek(b.plan.Tail(n)) != 3 {
			t.Error(n, b.peek(b.plan.Head(n)))
		}
	}
	b.upTo(collect.Idle)
	if b.allocated(lost) || b.c.Freed() != 1 {
		t.Error(b.c.Freed())
	}
}

// P20.3: a cycle ends within the steps that chapter 21 allows for one, however little room there is.
func TestSteps(t *testing.T) {
	s := seed(208)
	for _, pages := range []int{1, 2, 5, 12, 32} {
		for round := range 4 {
			b := benched(t, planned(t, pages, 6, 1), 1)
			var l []thing
			for {
				x := thing{h: header.Head{Kind: api.Refs, Len: []int{1, 2, 31, 63}[round]}}
				if x.at = b.lay(x.h); x.at == 0 {
					break
				}
				l = append(l, x)
			}
			for _, x := range l {
				for i := range x.h.Len {
					b.set(x.at, i, l[s.below(len(l))].at)
				}
			}
			b.poke(layout.Count, 6)
			for n := range 6 {
				b.poke(b.plan.Status(n), mutator.Parked)
				b.subjects[n] = &subject{roots: slices.Repeat([]int64{l[0].at}, 384)}
			}
			if n, bound := b.cycle(), 3000+(2+32*pages)*200*pages; n > bound {
				t.Errorf("%d steps in %d pages, which is more than %d", n, pages, bound)
			}
		}
	}
}
