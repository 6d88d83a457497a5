package tlab_test

import (
	"slices"
	"testing"

	"windrow/api"
	"windrow/arena"
	"windrow/header"
	"windrow/layout"
	"windrow/tlab"
)

// colours: all of them.
func colours() []int { return []int{tlab.White, tlab.Grey, tlab.Black} }

// heads: headers of all kinds and sizes that an object of at most 32 words has.
func heads() []header.Head {
	l := []header.Head{{Kind: api.Fields}, {Kind: api.Fields, Class: 15, Len: 15}, {Kind: api.Fields, Class: 1, Len: 2}, {Kind: api.Refs}, {Kind: api.Refs, Len: 31}, {Kind: api.Refs, Len: 12}}
	for n := range 32 {
		l = append(l, ints(n))
	}
	return l
}

// P12.1: the first object of a class and the next ones, of each size and colour, for threads and cycles.
func TestSmall(t *testing.T) {
	for n, h := range heads() {
		for _, colour := range colours() {
			th, cycle, class := n%4, []int{0, 1, 9, api.MaxCycle}[n/4%4], classOf(1+h.Len)
			a, plan := heap(t, 4, page{}, page{})
			b := buffers(t, plan, th, cycle, colour)
			s := tell(a, plan).entries(0, 1).entries(0).obtained(0, owned(class, th, cycle))
			s.built(0, 0, colour, h).pushed(th, colour).follow(t, a, newAlloc(t, b, h))
			if l := heldBy(b); !slices.Equal(l, [][2]int{{class, 0}}) {
				t.Fatal(l)
			}
			for k := 1; k < 64/widths()[class]; k++ {
				tell(a, plan).built(0, k*widths()[class], colour, h).pushed(th, colour).follow(t, a, newAlloc(t, b, h))
			}
			if got := peek(t, a, plan.Alloc(0)); got != starts(class) {
				t.Errorf("class %d: %x", class, got)
			}
			// The page is full: it is given back, looked at once more in the first round, and the next one is taken.
			s = tell(a, plan).store(plan.Entry(0), idle(class, cycle))
			s.entries(0).cas(plan.Entry(0), idle(class, cycle), owned(class, th, cycle)).load(plan.Alloc(0)).store(plan.Entry(0), idle(class, cycle))
			s.entries(1).entries(0, 1).obtained(1, owned(class, th, cycle)).built(1, 0, colour, h).pushed(th, colour).follow(t, a, newAlloc(t, b, h))
			if l := heldBy(b); !slices.Equal(l, [][2]int{{class, 1}}) {
				t.Fatal(l)
			}
		}
	}
}

// P12.1: a page that has objects goes on to be filled at its free cells, from the lowest on; bits at which no cell begins take no room.
func TestHoles(t *testing.T) {
	for class, width := range widths() {
		holes := starts(class) &^ 1 &^ (1 << width)
		for _, alloc := range []uint64{1, holes, 1 << width, starts(class) &^ (1 << width), ^uint64(0) &^ (1 << width) &^ 1, 2} {
			a, plan := heap(t, 2, page{idle(class, 4), alloc, 0})
			b := buffers(t, plan, 1, 4, tlab.White)
			s := tell(a, plan).entries(0).cas(plan.Entry(0), idle(class, 4), owned(class, 1, 4)).load(plan.Alloc(0))
			for at := 0; at+width <= 64; at += width {
				if alloc>>at&1 == 0 {
					s.built(0, at, tlab.White, ints(width-1)).follow(t, a, newAlloc(t, b, ints(width-1)))
					s = tell(a, plan)
				}
			}
			// The last one sees that the page is full: it gives it back and finds no other.
			s.store(plan.Entry(0), idle(class, 4)).entries(0).cas(plan.Entry(0), idle(class, 4), owned(class, 1, 4)).load(plan.Alloc(0)).store(plan.Entry(0), idle(class, 4))
			s.entries(0).entries(0).follow(t, a, newAlloc(t, b, ints(width-1)))
			if l := heldBy(b); len(l) != 0 {
				t.Error(class, l)
			}
		}
	}
}

// P12.1: a page of the class that is due is swept ahead.
func TestSweeps(t *testing.T) {
	a, plan := heap(t, 1, page{idle(3, 2), 1 | 1<<6 | 1<<12, 1 | 1<<12})
	b := buffers(t, plan, 0, 3, tlab.Black)
	s := tell(a, plan).entries(0, 0).cas(plan.Entry(0), idle(3, 2), entry(header.Small, 3, header.Busy, 0, 2)).load(plan.Mark(0)).load(plan.Alloc(0))
	s.store(plan.Alloc(0), 1|1<<12).store(plan.Mark(0), 0).store(plan.Entry(0), idle(3, 3))
	s.entries(0).cas(plan.Entry(0), idle(3, 3), owned(3, 0, 3)).load(plan.Alloc(0))
	s.built(0, 6, tlab.Black, ints(5)).follow(t, a, newAlloc(t, b, ints(5)))
	tell(a, plan).built(0, 18, tlab.Black, ints(4)).follow(t, a, newAlloc(t, b, ints(4)))
}

// P12.1: objects of several classes stand in a page each, whatever the order.
func TestClassesApart(t *testing.T) {
	a, plan := heap(t, 1, page{}, page{}, page{})
	b := buffers(t, plan, 0, 0, tlab.White)
	tell(a, plan).entries(0, 1, 2, 0).obtained(0, owned(7, 0, 0)).built(0, 0, 0, ints(20)).follow(t, a, newAlloc(t, b, ints(20)))
	tell(a, plan).entries(0, 1, 2, 0, 1).obtained(1, owned(0, 0, 0)).built(1, 0, 0, ints(0)).follow(t, a, newAlloc(t, b, ints(0)))
	tell(a, plan).built(0, 32, 0, ints(31)).follow(t, a, newAlloc(t, b, ints(31)))
	tell(a, plan).built(1, 2, 0, ints(1)).follow(t, a, newAlloc(t, b, ints(1)))
	tell(a, plan).entries(0, 1, 2, 0, 1, 2).obtained(2, owned(1, 0, 0)).built(2, 0, 0, ints(2)).follow(t, a, newAlloc(t, b, ints(2)))
	if l := heldBy(b); !slices.Equal(l, [][2]int{{0, 1}, {1, 2}, {7, 0}}) {
		t.Error(l)
	}
	// The page of class 7 is full: it is given back, and there is none left for the class; the other pages stay.
	s := tell(a, plan).store(plan.Entry(0), idle(7, 0)).entries(0).cas(plan.Entry(0), idle(7, 0), owned(7, 0, 0)).load(plan.Alloc(0)).store(plan.Entry(0), idle(7, 0))
	s.entries(1, 2, 0, 1, 2, 0, 1, 2).follow(t, a, newAlloc(t, b, ints(31)))
	if l := heldBy(b); !slices.Equal(l, [][2]int{{0, 1}, {1, 2}}) {
		t.Error(l)
	}
	tell(a, plan).built(2, 3, 0, ints(2)).follow(t, a, newAlloc(t, b, ints(2)))
}

// P12.1: large objects have their pages alone, from the first free ones on; grey and black ones are marked.
func TestLarge(t *testing.T) {
	for n, length := range []int{32, 33, 63, 64, 127, 128, 191, 192, 254, 255} {
		own := (1 + length + 63) / 64
		for _, colour := range colours() {
			th, cycle := n%3, []int{0, 3, api.MaxCycle}[n/3%3]
			h := header.Head{Kind: 2 + n%2, Len: length}
			a, plan := heap(t, 3, append([]page{{}, {owned(1, 2, 0), 7, 6}}, make([]page, own)...)...)
			b := buffers(t, plan, th, cycle, colour)
			s := tell(a, plan)
			first := 2
			if own == 1 {
				first = 0
				s.entries(0)
			} else {
				s.entries(0, 1)
				for k := range own {
					s.entries(2 + k)
				}
			}
			s.cas(plan.Entry(first), 0, busyLarge(own, th, cycle))
			for k := 1; k < own; k++ {
				s.cas(plan.Entry(first+k), 0, tail(k))
			}
			s.store(plan.Alloc(first), 0).store(plan.Mark(first), 0).built(first, 0, colour, h)
			s.store(plan.Entry(first), large(own, cycle)).pushed(th, colour).follow(t, a, newAlloc(t, b, h))
			if l := heldBy(b); len(l) != 0 {
				t.Error(l)
			}
		}
	}
}

// P12.1: where the ring is full, Over is set; the object is marked and allocated all the same.
func TestFullRing(t *testing.T) {
	for _, h := range []header.Head{ints(3), ints(40)} {
		for colour, over := range []uint64{tlab.White: 0, tlab.Grey: 1, tlab.Black: 0} {
			for _, head := range []uint64{0, 5, ^uint64(0)} {
				a, plan := heap(t, 2, make([]page, 5)...)
				for _, th := range []int{0, 1} {
					a.Poke(plan.Head(th), head)
					a.Poke(plan.Tail(th), head+uint64(th)*2)
				}
				b := buffers(t, plan, 1, 0, colour)
				m := newAlloc(t, b, h)
				finish(t, a, m)
				if peek(t, a, layout.Over) != over || m.Addr() != plan.Base() || m.None() || peek(t, a, plan.Tail(1)) != head+2 {
					t.Error(h, colour, peek(t, a, layout.Over), m.Addr())
				}
				s := tell(a, plan)
				if h.Len == 3 {
					s.built(0, 4, colour, h)
				} else {
					s.entries(0, 1).cas(plan.Entry(1), 0, busyLarge(1, 1, 0)).store(plan.Alloc(1), 0).store(plan.Mark(1), 0).built(1, 0, colour, h).store(plan.Entry(1), large(1, 0))
				}
				s.pushed(1, colour).follow(t, a, newAlloc(t, b, h))
				// The other thread's ring has room.
				if finish(t, a, newAlloc(t, buffers(t, plan, 0, 0, colour), h)); peek(t, a, plan.Tail(0)) != head+over {
					t.Error(h, colour, peek(t, a, plan.Tail(0)))
				}
			}
		}
	}
}

// P12.1: an object that needs more pages than there are has no room, at once.
func TestTooLarge(t *testing.T) {
	for n := 1; n <= 5; n++ {
		a, plan := heap(t, 1, make([]page, n)...)
		b := buffers(t, plan, 0, 0, tlab.Grey)
		for _, length := range []int{32, 63, 64, 127, 128, 191, 192, 255} {
			m := newAlloc(t, b, ints(length))
			if over := (length+1+63)/64 > n; m.Over() != over || m.None() != over || m.Addr() != 0 {
				t.Error(n, length, m.Over(), m.None(), m.Addr())
			}
			if m.Over() {
				still(t, a, m)
			}
		}
	}
}

// P12.4: where there is no room, what is allocated stays as it is.
func TestNoRoom(t *testing.T) {
	full := []page{{idle(3, 5), starts(3), starts(3)}, {owned(2, 1, 5), 1, 1}, {large(2, 5), 1, 1}, {tail(1), 0, 0}, {}, {entry(header.Small, 1, header.Busy, 15, 4), 1, 1}}
	for _, h := range []header.Head{ints(5), ints(3), ints(64), ints(255)} {
		for _, colour := range colours() {
			a, plan := heap(t, 2, full...)
			b := buffers(t, plan, 0, 5, colour)
			if h.Len < 32 {
				a.Poke(plan.Entry(4), owned(7, 1, 5))
			}
			before := a.Image()
			m := newAlloc(t, b, h)
			finish(t, a, m)
			if !m.None() || m.Addr() != 0 || len(heldBy(b)) != 0 || !slices.Equal(a.Image(), before) {
				t.Error(h, colour, m.None(), m.Addr())
			}
			still(t, a, m)
			// A large object leaves the free page, which a smaller one then takes.
			if h.Len >= 32 {
				if m = newAlloc(t, b, ints(40)); m.None() {
					t.Error("no room at once")
				}
				if finish(t, a, m); m.None() || m.Addr() != plan.Addr(4, 0) {
					t.Error(m.None(), m.Addr())
				}
			}
		}
	}
}

// P12.5, P12.1: a Retire gives back each page, in the order of the classes; its cells stay allocated, and are the next one's that claims it.
func TestRetire(t *testing.T) {
	for _, order := range [][]int{{}, {0}, {7}, {7, 0}, {3, 1, 2}, {7, 6, 5, 4, 3, 2, 1, 0}} {
		a, plan := heap(t, 2, make([]page, 8)...)
		b := buffers(t, plan, 1, 6, tlab.Grey)
		at := make([]int, 8)
		for _, class := range order {
			m := newAlloc(t, b, ints(widths()[class]-1))
			finish(t, a, m)
			at[class] = m.Addr()
		}
		s := tell(a, plan)
		for class, i := range b.Held() {
			s.store(plan.Entry(i), idle(class, 6))
		}
		r := tlab.NewRetire(b)
		if len(order) == 0 != r.Over() {
			t.Error(order, r.Over())
		}
		s.follow(t, a, r)
		still(t, a, r)
		if l := heldBy(b); len(l) != 0 {
			t.Error(order, l)
		}
		for _, class := range order {
			i, first := plan.Place(at[class])
			if first != 0 || peek(t, a, plan.Alloc(i)) != 1 || peek(t, a, at[class]) != headWord(ints(widths()[class]-1)) {
				t.Error(class, at[class])
			}
			m := newAlloc(t, b, ints(widths()[class]-1))
			if finish(t, a, m); m.Addr() != at[class]+widths()[class] {
				t.Error(class, m.Addr(), at[class])
			}
		}
	}
}

// P12.5: behind a Retire the buffers may have another cycle, in which what they gave back is swept.
func TestRetireAndCycle(t *testing.T) {
	a, plan := heap(t, 1, page{})
	b := buffers(t, plan, 0, 0, tlab.White)
	for range 4 {
		finish(t, a, newAlloc(t, b, ints(14)))
	}
	finish(t, a, tlab.NewRetire(b))
	if e := b.SetCycle(1); e != api.OK {
		t.Fatal(e)
	}
	a.Poke(plan.Mark(0), 1|1<<32)
	for _, at := range []int{16, 48} {
		m := newAlloc(t, b, ints(14))
		if finish(t, a, m); m.Addr() != plan.Addr(0, at) || peek(t, a, plan.Entry(0)) != owned(6, 0, 1) {
			t.Error(m.Addr(), at)
		}
	}
	m := newAlloc(t, b, ints(14))
	if finish(t, a, m); !m.None() || peek(t, a, plan.Alloc(0)) != starts(6) || peek(t, a, plan.Entry(0)) != idle(6, 1) {
		t.Error(m.None(), m.Addr())
	}
}

// A machine goes by the buffers as they are when it is stepped: others that are made ahead of that and stepped first change nothing in what it does.
func TestMadeAhead(t *testing.T) {
	a, plan := heap(t, 1, page{}, page{}, page{})
	b := buffers(t, plan, 0, 0, tlab.White)
	first, second, third := newAlloc(t, b, ints(31)), newAlloc(t, b, ints(31)), newAlloc(t, b, ints(31))
	late := tlab.NewRetire(b)
	finish(t, a, first)
	tell(a, plan).built(0, 32, tlab.White, ints(31)).follow(t, a, second)
	s := tell(a, plan).store(plan.Entry(0), idle(7, 0)).entries(0).cas(plan.Entry(0), idle(7, 0), owned(7, 0, 0)).load(plan.Alloc(0)).store(plan.Entry(0), idle(7, 0))
	s.entries(1, 2, 0, 1).obtained(1, owned(7, 0, 0)).built(1, 0, tlab.White, ints(31)).follow(t, a, third)
	still(t, a, late)
	one, other := tlab.NewRetire(b), tlab.NewRetire(b)
	fourth, wide := newAlloc(t, b, ints(31)), newAlloc(t, b, ints(32))
	tell(a, plan).store(plan.Entry(1), idle(7, 0)).follow(t, a, one)
	p := port(t, a, who)
	if p.Grant(); !other.Step(p) || !p.Open() {
		t.Error("another Retire finds a page")
	}
	still(t, a, other)
	// The cycle and the colour are those of the time of the steps, too.
	b.SetColour(tlab.Black)
	b.SetCycle(1)
	s = tell(a, plan).entries(0, 0).cas(plan.Entry(0), idle(7, 0), entry(header.Small, 7, header.Busy, 0, 0)).load(plan.Mark(0)).load(plan.Alloc(0)).store(plan.Alloc(0), 0).store(plan.Mark(0), 0).store(plan.Entry(0), 0)
	s.entries(1, 1).cas(plan.Entry(1), idle(7, 0), entry(header.Small, 7, header.Busy, 0, 0)).load(plan.Mark(1)).load(plan.Alloc(1)).store(plan.Alloc(1), 0).store(plan.Mark(1), 0).store(plan.Entry(1), 0)
	s.entries(2, 0).obtained(0, owned(7, 0, 1)).built(0, 0, tlab.Black, ints(31)).follow(t, a, fourth)
	s = tell(a, plan).entries(0, 1).cas(plan.Entry(1), 0, busyLarge(1, 0, 1)).store(plan.Alloc(1), 0).store(plan.Mark(1), 0)
	s.built(1, 0, tlab.Black, ints(32)).store(plan.Entry(1), large(1, 1)).follow(t, a, wide)
}

// Rule 6: in an arena that is too small all machines end.
func TestSmallArena(t *testing.T) {
	plan := layout.Plan{Pages: 4, Threads: 2, Ring: 2}
	for cells := 1; cells < plan.Cells(); cells += 7 {
		for _, colour := range colours() {
			a, _ := arena.New(cells, false)
			b := buffers(t, plan, 1, 0, colour)
			p := port(t, a, who)
			for _, h := range []header.Head{ints(1), ints(31), ints(31), ints(31), ints(100)} {
				m := newAlloc(t, b, h)
				n := 0
				for p.Grant(); !m.Step(p); p.Grant() {
					if n++; n > most {
						t.Fatal(cells, h)
					}
				}
			}
			r := tlab.NewRetire(b)
			for p.Grant(); !r.Step(p); p.Grant() {
			}
			if len(heldBy(b)) != 0 {
				t.Error(cells)
			}
		}
	}
}
